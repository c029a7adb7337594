/- My texts, in one. -/
import Derived.Test.YtmjkjaahbgikjaaGreatZC
set_option linter.all false
set_option maxRecDepth 100000
set_option maxHeartbeats 4000000
namespace Go.Proofs.YtmjkjaahbgikjaaGreat
open Go.RowKit
open IntKind (i64)
open Go.Proofs.Tryz (prog)
section
variable {C : Cx} {fn : Func}
theorem rv : ∀ {l : List Oper}, U4 l = true → ∀ o ∈ l, ∀ t x y, o.op = .store t x y → o.dst = none
 | [], _, o, ho, _, _, _, _ => by cases ho
 | x :: l, h, o, ho, t, a, b, hop => by
  simp only [U4] at h
  rcases List.mem_cons.1 ho with rfl | ho
  ·cases hd : o.dst with
   | none => rfl
   | some d => rw [hop, hd] at h; cases h
  ·split at h
   ·cases h
   ·exact rv h o ho t a b hop
theorem Rf (hT : qF C.P C.T) (hm : C.P.follows .mixedOrders = true) (id : Nat) (ops : Array Oper) (draw : Bool) : UI C fn (.region id ops draw) (ci ops.toList) (fun _ s k _ => Vc C id ops draw s fun s => k .normal s) := by
 intro ρ s p k kr res hpr hs h
 have ha : ops.toList.toArray = ops := by simp
 have hW : ∀ o ∈ ops.toList, ∀ d, o.dst = some d → aA (ci ops.toList) d = true := fun o ho d hd => sW ho hd
 have hO : ∀ (j : Nat) (o : Oper), ops[j]? = some o → ∀ d, o.dst = some d → aA (ci ops.toList) d = true := fun j o ho d hd => sW (by
  rw [Array.mem_toList_iff]
  exact Array.mem_of_getElem? ho) hd
 replace h : Vc C id ops draw s (fun s => k .normal s) = some res := h
 unfold Vc at h
 cases hf : lh (lkF C.fz id) s with
 | none => rw [hf] at h; cases h
 | some s0 =>
  rw [hf] at h
  obtain ⟨p1, k1, k2, k3⟩ := rJ (sc := C.sc) hpr hs hf
  refine ug k1 (ug (AW k2) ?_)
  have hs2 := rx k2
  have hpr2 : l5 ⟨s0.sl, s0.bx, s0.pr, s0.ro, []⟩ := (k3 []).prOk hpr
  have fin : ∀ p', Gn C.sc (ci ops.toList) ops.toList ⟨s0.sl, s0.bx, s0.pr, s0.ro, []⟩ (xA s0 p1) (fun s => k .normal s) res p' → wM C fn (ci ops.toList) s k kr res .normal p' := by
   rintro p' ⟨s', m1, m2, m3, m4, _⟩
   exact ⟨s', m1.w, (k3 _).trans ⟨m2.pr, m2.ro, m2.bx, m2.sl, m2.st⟩, m4⟩
  simp only at h
  cases draw <;> simp only at h
  ·obtain ⟨h1, h2⟩ := ao h
   rw [Bool.and_eq_true] at h1
   have hrun := Dh (q := true) (sc := C.sc) hT (ops := ops) 1000 0 [] ops.toList hW hO (rv h1.1) hpr2 hs2 h2
   have := Lv (P := C.P) (n := C.n) (id := id) (Qs := wM C fn (ci ops.toList) s k kr res) (s := xA s0 p1) h1.2 (by rw [ha]; exact fR hrun fin)
   rw [ha] at this
   exact this
  ·obtain ⟨h1, h2⟩ := ao h
   obtain ⟨h3, h4⟩ := ao h2
   split at h4
   ·have hrun := Dh (q := false) (sc := C.sc) hT (ops := ops) 1000 0 [] ops.toList hW hO (rv h1) hpr2 hs2 h4
    have := Vg (P := C.P) (n := C.n) (id := id) (l := ops.toList) (Qs := wM C fn (ci ops.toList) s k kr res) (s := xA s0 p1) _ hm (by rw [ha]; exact h3) (by
     rw [ha]
     exact AE (P := C.P) (ops := ops) ops.toList 0 (xA s0 p1) (fun j hj => by simp) (fR hrun fin))
    rw [ha] at this
    exact this
   ·obtain ⟨h5, h6⟩ := ao h4
    rw [Bool.and_eq_true] at h5
    have hle := zd h5.2
    have hsub1 : ∀ o ∈ ops.toList.take (iQ ops), o ∈ ops.toList := fun o ho => List.mem_of_mem_take ho
    have hsub2 : ∀ o ∈ ops.toList.drop (iQ ops), o ∈ ops.toList := fun o ho => List.mem_of_mem_drop ho
    have hrun1 := Dh (q := false) (sc := C.sc) hT (ops := ops) 1000 0 [] (ops.toList.take (iQ ops)) (fun o ho => hW o (hsub1 o ho)) hO (fun o ho => rv h1 o (hsub1 o ho)) hpr2 hs2 h6
    have hrun : v8 false C.P ops (yy (kK C.T ⟨s0.sl, s0.bx, s0.pr, s0.ro, []⟩ ops.toList [] [])) 0 (ops.toList.take (iQ ops)) (xA s0 p1) fun p' => v8 true C.P ops (yy []) 0 (ops.toList.drop (iQ ops)) p' (wM C fn (ci ops.toList) s k kr res .normal) := by
     refine fR hrun1 fun p' hp => ?_
     obtain ⟨s', m1, m2, m3, m4, _⟩ := hp
     have hrun2 := Dh (q := true) (sc := C.sc) hT (ops := ops) 1000 0 [] (ops.toList.drop (iQ ops)) (fun o ho => hW o (hsub2 o ho)) hO (fun o ho => rv h1 o (hsub2 o ho)) m3 m1 m4
     refine fR hrun2 fun p2 hp2 => ?_
     obtain ⟨s3, n1, n2, n3, n4, _⟩ := hp2
     exact ⟨s3, n1.w, (k3 _).trans ((show dB C.sc (ci ops.toList) s0 s' from ⟨m2.pr, m2.ro, m2.bx, m2.sl, m2.st⟩).trans n2), n4⟩
    have := SG (P := C.P) (n := C.n) (id := id) (l := ops.toList) (Qs := wM C fn (ci ops.toList) s k kr res) (s := xA s0 p1) _ (iQ ops) hle hm (by rw [ha]; exact h3) (by rw [ha]; exact h5.1) (by
     rw [ha]
     have e1 : (ops.toList.take (iQ ops)).length = iQ ops := by rw [List.length_take]; exact Nat.min_eq_left (by simpa using hle)
     have e2 : (ops.toList.drop (iQ ops)).length = ops.toList.length - iQ ops := by simp
     rw [← e2]
     have r1 := AE (P := C.P) (ops := ops) (ops.toList.take (iQ ops)) 0 (xA s0 p1) (fun j hj => by
      rw [e1] at hj
      rw [List.getElem?_take, if_pos hj]
      simp) hrun
     rw [e1] at r1
     refine Hu r1 fun p' hp => Q7 _ _ _ _ (fun j hj => by rw [List.getElem?_drop]; simp) hp)
    rw [ha] at this
    exact this
theorem XD (hT : qF C.P C.T) (hm : C.P.follows .mixedOrders = true) (id : Nat) (ops : Array Oper) (draw : Bool) : UI C fn (.region id ops draw) (ci ops.toList) (fun _ s k _ => XE C id ops draw s fun s => k .normal s) := by
 intro ρ s p k kr res hpr hs h
 replace h : XE C id ops draw s (fun s => k .normal s) = some res := h
 unfold XE at h
 split at h
 ·exact Rf hT hm id ops draw ρ s p k kr res hpr hs h
 ·rename_i t l _
  obtain ⟨h1, h2⟩ := ao h
  have h3 := Rf (fn := fn) hT hm id ops draw ρ s p (fun e s => match e with | .normal => (match Ie C.sc (t :: l) s with | some s => k .normal s | none => none) | e => k e s) kr res hpr hs h2
  refine fu h3 fun e p' hq => ?_
  by_cases he : e = .ret
  ·subst he; exact ⟨p', .refl _, hq⟩
  ·obtain ⟨s', m1, m2, m3⟩ := qt he hq
   cases e with
   | ret => exact absurd rfl he
   | normal =>
    have m3 : (match Ie C.sc (t :: l) s' with | some s => k .normal s | none => none) = some res := m3
    split at m3
    ·rename_i s2 hfb
     obtain ⟨p2, k1, k2, k3⟩ := Md hs (m2.prOk hpr) h1 m2 m1 hfb
     exact ⟨p2, k1, s2, k2, k3, m3⟩
    ·cases m3
   | _ => exact ⟨p', .refl _, Lz he m1 m2 m3⟩
theorem DX {s : SS} {p : PS} (hs : gR s p) {x : Operand} {b : Bool} (h : evX s x = .d (.bool b)) : gR (wy s x b) p := by
 unfold wy
 split
 ·rename_i i
  refine ⟨fun j => ?_, hs.bx⟩
  show bc s.bx (lkV ((i, .d (.bool b)) :: s.sl) j) (p.t j)
  rw [cR]
  split
  ·rename_i e
   subst e
   have := hs.sl j
   rw [show lkV s.sl j = .d (.bool b) from h] at this
   exact this
  ·exact hs.sl j
 ·exact hs
theorem EA {W : List Nat} {s : SS} {x : Operand} {b : Bool} (h : ∀ i, x = .tmp i → aA W i = true) : dB C.sc W s (wy s x b) := by
 unfold wy
 split
 ·rename_i i
  refine ⟨rfl, rfl, fun _ _ => .refl _, fun j hj _ => ?_, fun _ _ _ cs h => ⟨cs, h, rfl⟩⟩
  show lkV ((i, .d (.bool b)) :: s.sl) j = _
  rw [cR, if_neg (fun e => by rw [e, h i rfl] at hj; cases hj)]
 ·exact .refl _ _
theorem Ew {s : SS} {x : Operand} {b : Bool} (h : l5 s) : l5 (wy s x b) := by unfold wy; split <;> exact h
theorem Wa {s : SS} {p : PS} (hs : gR s p) (x : Operand) : bc s.bx (evX s x) (ev p x) := by
 cases x with
 | tmp i => exact hs.sl i
 | const v => exact Fp v
 | global g => exact .junk _
 | func f => exact .fn f [] [] [] [] rfl (fun j c q h => by simp at h) rfl (fun j c q h => by simp at h)
theorem xf {W W' : List Nat} {s s0 : SS} {ρ : Type} {k : Exit → SS → Option ρ} {kr : a8 C.rs → Option ρ} {res : ρ} (hW : ∀ i, aA W i = true → aA W' i = true) (hk : dB C.sc W' s0 s) {e : Exit} {p : PS} (h : wM C fn W s k kr res e p) : wM C fn W' s0 k kr res e p := by
 by_cases he : e = .ret
 ·subst he; exact h
 ·obtain ⟨s', h1, h2, h3⟩ := qt he h
  exact Lz he h1 (hk.trans (h2.wide hW)) h3
theorem Et {σ τ : Type} {f : σ → Option (σ ⊕ τ)} {m : Nat} {st : σ} {out : τ} (h : ah f m st = some out) : ∃ m', m = m' + 1 ∧ ((∃ st', f st = some (.inl st') ∧ ah f m' st' = some out) ∨ f st = some (.inr out)) := by
 cases m with
 | zero => cases h
 | succ m =>
  refine ⟨m, rfl, ?_⟩
  unfold ah at h
  split at h
  ·cases h
  ·rename_i st' hf; exact .inl ⟨st', hf, h⟩
  ·rename_i r hf; injection h with h; subst h; exact .inr hf
theorem Rt {c : Code} {ms : List Mod} {id : Nat} {τ : Type} {inr : jN ms → τ} {ret : a8 C.rs → Option τ} {step : jN ms → Option (jN ms ⊕ τ)} {body : (ρ : Type) → SS → (Exit → SS → Option ρ) → (a8 C.rs → Option ρ) → Option ρ} (hb : UI C fn c (wrC c) body)
  {s0 : SS} (hstep : step = fun st => match jG ms st (cg C.sc (wrC c) ms s0) with
   | none => none
   | some sh => body (jN ms ⊕ τ) sh (fun e s' => match e with
    | .normal => Option.bind (qu ms s') fun st' => some (.inl st')
    | .exit id' => (match Nat.beq id' id with | true => Option.bind (qu ms s') fun st' => some (.inr (inr st')) | false => none)
    | _ => none) (fun r => (ret r).map .inr))
  {st0 : jN ms} {p : PS} (hs0 : gR s0 p) (hchk : sJ C.sc (wrC c) ms s0.pr s0 = true) (hpack : tA s0 ms = some st0) {out : τ} (hl : ah step ab st0 = some out)
  (hput : ∀ st, inr st = out → ∃ s2, jG ms st (cg C.sc (wrC c) ms s0) = some s2) {Q : Exit → PS → Prop} (hexit : ∀ st s2 p', inr st = out → jG ms st (cg C.sc (wrC c) ms s0) = some s2 → gR s2 p' → dB C.sc (wrC c) (tC C.sc (wrC c) ms s0) s2 → Q (.exit id) p')
  (hret : ∀ r p', ret r = some out → Sc C fn p' r → Q .ret p') : PWP C.P C.n (.loop c) Q p := by
 have put_of : ∀ {m st out}, ah step m st = some out → ∃ sh, jG ms st (cg C.sc (wrC c) ms s0) = some sh := by
  intro m st out h
  obtain ⟨m', _, h⟩ := Et h
  have : ∃ r, step st = some r := by rcases h with ⟨st', h, _⟩ | h <;> exact ⟨_, h⟩
  obtain ⟨r, hr⟩ := this
  rw [hstep] at hr
  simp only at hr
  split at hr
  ·cases hr
  ·rename_i sh hsh; exact ⟨sh, hsh⟩
 refine SE (ks := []) (bs := []) (fun q m => ∃ st sh, jG ms st (cg C.sc (wrC c) ms s0) = some sh ∧ gR sh q ∧ dB C.sc (wrC c) (tC C.sc (wrC c) ms s0) sh ∧ ah step m st = some out) ab ?_ ?_
 ·obtain ⟨sh, hsh⟩ := put_of hl
  obtain ⟨o1, o2, o3⟩ := JB hs0 hchk (.refl _ _) (s' := tC C.sc (wrC c) ms s0) ⟨hs0.sl, hs0.bx⟩ (show tA (tC C.sc (wrC c) ms s0) ms = some st0 from (by
   have : ∀ (l : List Mod) (s s' : SS), s.sl = s'.sl → s.bx = s'.bx → tA s l = tA s' l := by
    intro l s s' h1 h2
    have cells : ∀ (rows : List (Nat × Nat × Nat × Nat × Ty)) (cs : List SV) (j : Nat), cellsOf s rows j cs = cellsOf s' rows j cs := by
     intro rows cs
     induction cs with
     | nil => intro j; rfl
     | cons c cs ih => intro j; simp only [cellsOf, h2, ih]
    have one : ∀ m : Mod, A0 s m = A0 s' m := by
     intro m
     cases m <;> simp only [A0, h1, h2, cells]
    induction l with
    | nil => rfl
    | cons m l ih =>
     cases l with
     | nil => exact one m
     | cons m' l => simp only [tA, one, ih]
   exact (this ms (tC C.sc (wrC c) ms s0) s0 rfl rfl).trans hpack)) hsh
  exact ⟨st0, sh, hsh, o1, o2, hl⟩
 ·rintro q m ⟨st, sh, hsh, hq, hk, hlo⟩
  obtain ⟨m', rfl, hcase⟩ := Et hlo
  have hrun : ∃ fr, step st = some fr ∧ ((∃ st', fr = .inl st' ∧ ah step m' st' = some out) ∨ fr = .inr out) := by
   rcases hcase with ⟨st', h1, h2⟩ | h1
   ·exact ⟨_, h1, .inl ⟨st', rfl, h2⟩⟩
   ·exact ⟨_, h1, .inr rfl⟩
  obtain ⟨fr, hfr, hcase⟩ := hrun
  have hbody : body (jN ms ⊕ τ) sh (fun e s' => match e with
    | .normal => Option.bind (qu ms s') fun st' => some (.inl st')
    | .exit id' => (match Nat.beq id' id with | true => Option.bind (qu ms s') fun st' => some (.inr (inr st')) | false => none)
    | _ => none) (fun r => (ret r).map .inr) = some fr := by
   rw [hstep] at hfr
   simp only [hsh] at hfr
   exact hfr
  have hprh : l5 sh := hk.prOk (AZ ms s0)
  have meet : ∀ {s' : SS} {p' : PS} {st' : jN ms} {s2 : SS}, gR s' p' → dB C.sc (wrC c) sh s' → qu ms s' = some st' → jG ms st' (cg C.sc (wrC c) ms s0) = some s2 → ∃ p'', Le p' p'' ∧ gR s2 p'' ∧ dB C.sc (wrC c) (tC C.sc (wrC c) ms s0) s2 := by
   intro s' p' st' s2 m1 m2 m3 m4
   unfold qu at m3
   split at m3
   ·rename_i s'' hf
    obtain ⟨p'', n1, n2, n3⟩ := rJ (sc := C.sc) (m2.prOk hprh) m1 hf
    obtain ⟨o1, o2, o3⟩ := JB hs0 hchk ((hk.trans m2).trans (n3 (wrC c))) n2 m3 m4
    exact ⟨p'', n1, o1, o2⟩
   ·cases m3
  refine fu (hb _ sh q _ _ fr hprh hq hbody) fun e p' hpost => ?_
  by_cases he : e = .ret
  ·subst he
   obtain ⟨r, h1, h3⟩ := hpost
   rw [zm] at h3
   obtain ⟨v, h4, h5⟩ := h3
   rcases hcase with ⟨st', rfl, _⟩ | rfl
   ·cases h5
   ·injection h5 with h5
    subst h5
    exact ⟨p', .refl _, hret r p' h4 h1⟩
  ·obtain ⟨s', m1, m2, m3⟩ := qt he hpost
   cases e with
   | normal =>
    obtain ⟨st', m4, m5⟩ := cO m3
    injection m5 with m5
    rcases hcase with ⟨st2, h1, h2⟩ | h1
    ·rw [← m5] at h1
     injection h1 with h1
     subst h1
     obtain ⟨sh', hsh'⟩ := put_of h2
     obtain ⟨p'', n1, n2, n3⟩ := meet m1 m2 m4 hsh'
     exact ⟨p'', n1, p'', fun _ _ _ _ _ h => h, m', ⟨st', sh', hsh', n2, n3, h2⟩, Nat.lt_succ_self _⟩
    ·rw [← m5] at h1; cases h1
   | exit id' =>
    replace m3 : (match Nat.beq id' id with | true => Option.bind (qu ms s') fun st' => some (.inr (inr st')) | false => none) = some fr := m3
    split at m3
    ·rename_i hid
     rw [cS] at hid
     have hid := zd hid
     subst hid
     obtain ⟨st', m4, m5⟩ := cO m3
     injection m5 with m5
     rcases hcase with ⟨st2, h1, h2⟩ | h1
     ·rw [← m5] at h1; cases h1
     ·rw [← m5] at h1
      injection h1 with h1
      obtain ⟨s2, hs2⟩ := hput st' h1
      obtain ⟨p'', n1, n2, n3⟩ := meet m1 m2 m4 hs2
      exact ⟨p'', n1, hexit st' s2 p'' h1 hs2 n2 n3⟩
    ·cases m3
   | ret => exact absurd rfl he
   | _ => cases m3
end
section
variable {C : Cx} {fn : Func}
theorem oM (hT : qF C.P C.T) (hm : C.P.follows .mixedOrders = true) (hv : fn.results.toList = C.vars) : ∀ (c : Code) (h : tU), UI C fn c (wrC c) (xw C c h)
 | .skip, h => fun ρ s p k kr res hpr hs hx => Ve ⟨s, hs, .refl _ _, hx⟩
 | .label l, h => fun ρ s p k kr res hpr hs hx => SF ⟨s, hs, .refl _ _, hx⟩
 | .exit id, h => fun ρ s p k kr res hpr hs hx => Vf ⟨s, hs, .refl _ _, hx⟩
 | .ret, h => fun ρ s p k kr res hpr hs hx => by
  obtain ⟨r, h1, h2⟩ := cO (show Option.bind (B4 C s) kr = some res from hx)
  obtain ⟨p', h3, h4⟩ := RA hv (yp hpr) (rx hs) h1
  exact ug ((AW hs).trans h3) (XH ⟨r, h4, h2⟩)
 | .region id ops draw, h => yb (XD hT hm id ops draw)
 | .seq a b, h => by
  refine yb (c := .seq a b) (wr := wrC a ++ wrC b) fun ρ s p k kr res hpr hs hx => ?_
  refine XG (fu (oM hT hm hv a h.l ρ s p _ _ res hpr hs hx) fun e p' hq => ⟨p', .refl _, ?_⟩)
  by_cases he : e = .ret
  ·subst he; exact hq
  ·obtain ⟨s', m1, m2, m3⟩ := qt he hq
   have hk : dB C.sc (wrC a ++ wrC b) s s' := m2.wide fun i hi => XV hi
   cases e with
   | normal =>
    refine fu (oM hT hm hv b h.r ρ s' p' k kr res (hk.prOk hpr) m1 m3) fun e p2 hq2 => ⟨p2, .refl _, ?_⟩
    exact xf (fun i hi => Vy hi) hk hq2
   | ret => exact absurd rfl he
   | _ => exact ⟨s', m1, hk, m3⟩
 | .cond x a b, h => by
  have hwA : ∀ i, aA (wrC a) i = true → aA (wrC (.cond x a b)) i = true := fun i hi => by
   cases x <;> simp only [wrC, aZ, de, hi, Bool.true_or, Bool.or_true]
  have hwB : ∀ i, aA (wrC b) i = true → aA (wrC (.cond x a b)) i = true := fun i hi => by
   cases x <;> simp only [wrC, aZ, de, hi, Bool.or_true]
  have hwx : ∀ i, x = .tmp i → aA (wrC (.cond x a b)) i = true := fun i hi => by
   subst hi; simp only [wrC, aZ, decide_true, Bool.true_or]
  refine yb (c := .cond x a b) (wr := wrC (.cond x a b)) fun ρ s p k kr res hpr hs hx => ?_
  have hx : (match evX s x with | .d (.bool t) => if t = true then xw C a h.l ρ (wy s x true) k kr else xw C b h.r ρ (wy s x false) k kr | _ => none) = some res := hx
  split at hx
  ·rename_i t ht
   have hq := Wa hs x
   rw [ht] at hq
   have hb := kN hq
   cases t
   ·rw [if_neg (by simp)] at hx
    refine Lw false (by rw [hb]; rfl) ?_
    rw [if_neg (by simp)]
    exact fu (oM hT hm hv b h.r ρ _ p k kr res (Ew hpr) (DX hs ht) hx) fun e p' hq => ⟨p', .refl _, xf hwB (EA hwx) hq⟩
   ·rw [if_pos rfl] at hx
    refine Lw true (by rw [hb]; rfl) ?_
    rw [if_pos rfl]
    exact fu (oM hT hm hv a h.l ρ _ p k kr res (Ew hpr) (DX hs ht) hx) fun e p' hq => ⟨p', .refl _, xf hwA (EA hwx) hq⟩
  ·cases hx
 | .block id c, h => by
  refine yb (c := .block id c) (wr := wrC c) fun ρ s p k kr res hpr hs hx => ?_
  refine SH (fu (oM hT hm hv c h.l ρ s p _ _ res hpr hs hx) fun e p' hq => ⟨p', .refl _, ?_⟩)
  by_cases he : e = .ret
  ·subst he; exact hq
  ·obtain ⟨s', m1, m2, m3⟩ := qt he hq
   cases e with
   | exit id' =>
    have m3 : (match Nat.beq id' id with | true => k .normal s' | false => k (.exit id') s') = some res := m3
    simp only [ED]
    rw [cS] at m3
    by_cases hid : id' = id
    ·rw [if_pos hid]
     simp only [hid, decide_true] at m3
     exact ⟨s', m1, m2, m3⟩
    ·rw [if_neg hid]
     simp only [hid, decide_false] at m3
     exact ⟨s', m1, m2, m3⟩
   | ret => exact absurd rfl he
   | _ => exact ⟨s', m1, m2, m3⟩
 | .loop c, h => fun ρ s p k kr res hpr hs hx => by
  cases h with
  | lp ms id ret hb =>
   unfold xw at hx
   cases he : O0 (wrC c) ms (clr s) with
   | none => rw [he] at hx; cases hx
   | some s0 =>
    rw [he] at hx
    obtain ⟨hchk, hx⟩ := ao hx
    refine ug (AW hs) ?_
    unfold O0 at he
    split at he
    ·rename_i s1 hnil
     obtain ⟨p2, k1, k2, k3, k4⟩ := qx (sc := C.sc) (s := clr s) rfl (yp hpr) (rx hs) hnil
     refine ug k1 ?_
     have hk1 : dB C.sc (wrC c) s s1 := LX k3
     obtain ⟨p3, n1, n2, n3⟩ := rJ (sc := C.sc) (hk1.prOk hpr) k2.w he
     refine ug n1 ?_
     have hk0 : dB C.sc (wrC c) s s0 := hk1.trans (n3 _)
     have hchk' : sJ C.sc (wrC c) ms s0.pr s0 = true := by rw [hk0.pr]; exact hchk
     cases hpk : tA s0 ms with
     | none => rw [hpk] at hx; cases hx
     | some st0 =>
      rw [hpk] at hx
      cases ret with
      | false =>
       obtain ⟨out, h1, h2⟩ := cO hx
       refine Rt (C := C) (fn := fn) (c := c) (ms := ms) (id := id) (τ := jN ms) (inr := fun st => st) (ret := fun _ => none) (body := xw C c hb) (oM hT hm hv c hb) rfl n2 hchk' hpk h1 ?_ ?_ ?_
       ·intro st hst
        subst hst
        split at h2
        ·rename_i s2 hs2; exact ⟨s2, hs2⟩
        ·cases h2
       ·intro st s2 p' hst hs2 m1 m2
        subst hst
        rw [hs2] at h2
        exact ⟨⟨s2.sl, s2.bx, s.pr, s.ro, s.oc⟩, ⟨m1.sl, m1.bx⟩, xo hk0 (Oq hpr hk0 hchk) m2, h2⟩
       ·intro r p' hr; cases hr
      | true =>
       obtain ⟨out, h1, h2⟩ := cO hx
       refine Rt (C := C) (fn := fn) (c := c) (ms := ms) (id := id) (τ := jN ms ⊕ a8 C.rs) (inr := .inl) (ret := fun r => some (.inr r)) (body := xw C c hb) (oM hT hm hv c hb) rfl n2 hchk' hpk h1 ?_ ?_ ?_
       ·intro st hst
        subst hst
        have h2 : (match jG ms st (cg C.sc (wrC c) ms s0) with | some s2 => k (.exit id) ⟨s2.sl, s2.bx, s.pr, s.ro, s.oc⟩ | none => none) = some res := h2
        split at h2
        ·rename_i s2 hs2; exact ⟨s2, hs2⟩
        ·cases h2
       ·intro st s2 p' hst hs2 m1 m2
        subst hst
        have h2 : (match jG ms st (cg C.sc (wrC c) ms s0) with | some s2 => k (.exit id) ⟨s2.sl, s2.bx, s.pr, s.ro, s.oc⟩ | none => none) = some res := h2
        rw [hs2] at h2
        exact ⟨⟨s2.sl, s2.bx, s.pr, s.ro, s.oc⟩, ⟨m1.sl, m1.bx⟩, xo hk0 (Oq hpr hk0 hchk) m2, h2⟩
       ·intro r p' hr h3
        injection hr with hr
        subst hr
        exact ⟨r, h3, h2⟩
    ·cases he
  | _ => cases hx
 | .rangeFunc .., h => fun ρ s p k kr res hpr hs hx => by cases hx
 | .scope .., h => fun ρ s p k kr res hpr hs hx => by cases hx
 | .goto .., h => fun ρ s p k kr res hpr hs hx => by cases hx
 | .refuse .., h => fun ρ s p k kr res hpr hs hx => by cases hx
theorem Kh : ∀ (vs : List SV) (i j : Nat), lkV (Bn i vs) (i + j) = (vs[j]?).getD .junk
 | [], i, j => by simp [Bn, lkV]
 | v :: vs, i, 0 => by simp [Bn, cR]
 | v :: vs, i, j + 1 => by
  simp only [Bn, cR]
  rw [if_neg (by omega), show i + (j + 1) = i + 1 + j by omega, Kh vs (i + 1) j]
  simp
theorem Hn : ∀ (ps : List PT) (x : cp ps), (rq ps x).length = ps.length
 | [], _ => rfl
 | p :: ps, x => by simp [rq, Hn ps]
theorem cd {P : Program} {T : List (Nat × Ent)} {n : Nat} {ps rs : List PT} {vars : List ResultVar} {fz : List (Nat × List Nat)} {sc : List Nat} {fb : List (Nat × List Nat)} {h : tU} {f : FuncId} {fn : Func} {c : Code} (hT : qF P T) (hm : P.follows .mixedOrders = true) (hf : P.funcs[f]? = some fn) (hb : fn.body = some c) (hcb : dN P f = true) (hn : fn.ntmps = n) (hv : fn.results.toList = vars) (hl : ((decide (ps.length ≤ n) && ul ps) && !(oN ps || oN rs)) = true)
  {F : cp ps → Option (a8 rs)} (hF : ∀ x, fS ⟨P, T, n, rs, vars, fz, sc, fb⟩ c h ps x = F x) : bK P f ps rs F := by
 intro x r hx
 rw [Bool.and_eq_true] at hl
 obtain ⟨hl, hl3⟩ := hl
 refine ⟨fun hnM => ?_, fun h => by rw [h] at hl3; cases hl3⟩
 have hrs : oN rs = false := by rw [Bool.or_eq_false_iff] at hnM; exact hnM.2
 rw [← hF] at hx
 rw [Bool.and_eq_true] at hl
 have hlen := zd hl.1
 subst hn
 refine Vl hf hb hcb (by rw [Hn]; exact hlen) ?_
 have hargs := Im (B := []) ps x hl.2
 have hs : gR ⟨Bn 0 (Cc ps x), [], [], false, []⟩ ⟨mh (rq ps x), dP⟩ := by
  refine ⟨fun i => ?_, fun t b hb => by cases hb⟩
  show bc [] (lkV (Bn 0 (Cc ps x)) i) (mh (rq ps x) i)
  have := Kh (Cc ps x) 0 i
  rw [Nat.zero_add] at this
  rw [this]
  unfold mh
  cases h1 : (Cc ps x)[i]? with
  | none => exact .junk _
  | some v =>
   have hlt : i < (rq ps x).length := by rw [← hargs.len]; exact (zg.1 h1).1
   rw [zq hlt]
   exact hargs.rep i v _ h1 (zq hlt)
 have hpr : l5 ⟨Bn 0 (Cc ps x), [], [], false, []⟩ := fun t ht => by cases ht
 refine fu (oM (C := ⟨P, T, fn.ntmps, rs, vars, fz, sc, fb⟩) (fn := fn) hT hm hv c h _ _ _ _ _ r hpr hs hx) fun e p' hq => ?_
 by_cases he : e = .ret
 ·subst he
  obtain ⟨r', h1, h3⟩ := hq
  injection h3 with h3
  subst h3
  obtain ⟨q, h1, h2⟩ := h1.1 hrs
  exact ⟨p', .refl _, trivial, q, h1, h2⟩
 ·obtain ⟨s', m1, m2, m3⟩ := qt he hq
  cases e with
  | normal =>
   obtain ⟨q, h1, h2⟩ := LV (C := ⟨P, T, fn.ntmps, rs, vars, fz, sc, fb⟩) hv (rx m1) hrs m3
   exact ⟨xA s' p', AW m1, trivial, q, h1, h2⟩
  | ret => exact absurd rfl he
  | _ => cases m3
end
def VA : List Nat → List Nat → Nat → Nat
 | a :: xs, b :: bs, t => if t = a then b else VA xs bs t
 | _, _, t => t
theorem Er : ∀ {xs bs : List Nat}, xs.Nodup → xs.length = bs.length → xs.map (VA xs bs) = bs
 | [], [], _, _ => rfl
 | [], _ :: _, _, h => by cases h
 | _ :: _, [], _, h => by cases h
 | a :: xs, b :: bs, hn, hl => by
  rw [List.nodup_cons] at hn
  have ih := Er (xs := xs) (bs := bs) hn.2 (by simpa using hl)
  simp only [List.map_cons, VA, if_true]
  congr 1
  conv => rhs; rw [← ih]
  apply List.map_congr_left
  intro t ht
  rw [if_neg (fun (e : t = a) => hn.1 (by rw [← e]; exact ht))]
theorem AO {f : Nat → Nat} : ∀ {l : List Nat}, (l.map f).Nodup → ∀ x ∈ l, ∀ y ∈ l, f x = f y → x = y
 | [], _, x, hx, _, _ => by cases hx
 | a :: l, h, x, hx, y, hy => by
  rw [List.map_cons, List.nodup_cons] at h
  intro e
  have hm : ∀ z ∈ l, f z ≠ f a := fun z hz e => h.1 (by rw [← e]; exact List.mem_map_of_mem hz)
  rcases List.mem_cons.1 hx with h1 | h1
  ·rcases List.mem_cons.1 hy with h2 | h2
   ·rw [h1, h2]
   ·exact absurd (by rw [← e, h1]) (hm y h2)
  ·rcases List.mem_cons.1 hy with h2 | h2
   ·exact absurd (by rw [e, h2]) (hm x h1)
   ·exact AO h.2 x h1 y h2 e
theorem vC {τ : Nat → Nat} : ∀ {xs bs : List (List Nat)}, xs.map List.length = bs.map List.length → (bm xs).map τ = bm bs → xs.map (·.map τ) = bs
 | [], [], _, _ => rfl
 | [], _ :: _, h, _ => by cases h
 | _ :: _, [], h, _ => by cases h
 | a :: xs, b :: bs, hl, h => by
  simp only [List.map_cons, List.cons.injEq] at hl
  simp only [bm, List.map_append] at h
  obtain ⟨h1, h2⟩ := List.append_inj h (by simpa using hl.1)
  rw [List.map_cons, h1, vC hl.2 h2]
theorem w6 : ∀ {ps : List PT} {xs bs : List (List Nat)}, iE ps xs → iE ps bs → xs.map List.length = bs.map List.length
 | [], [], [], _, _ => rfl
 | [], _ :: _, _, h, _ => h.elim
 | [], [], _ :: _, _, h => h.elim
 | _ :: _, [], _, h, _ => h.elim
 | _ :: _, _ :: _, [], _, h => h.elim
 | p :: ps, a :: xs, b :: bs, h1, h2 => by simp only [List.map_cons, h1.1, h2.1, w6 h1.2 h2.2]
theorem yk : ∀ {ls : List IB} {xs bs : List (List Nat)}, jS ls xs → jS ls bs → xs.map List.length = bs.map List.length
 | [], [], [], _, _ => rfl
 | [], _ :: _, _, h, _ => h.elim
 | [], [], _ :: _, _, h => h.elim
 | _ :: _, [], _, h, _ => h.elim
 | _ :: _, _ :: _, [], _, h => h.elim
 | p :: ps, a :: xs, b :: bs, h1, h2 => by simp only [List.map_cons, h1.1, h2.1, yk h1.2 h2.2]
theorem rD : ∀ {xs bs : List (List Nat)}, xs.map List.length = bs.map List.length → (bm xs).length = (bm bs).length
 | [], [], _ => rfl
 | [], _ :: _, h => by cases h
 | _ :: _, [], h => by cases h
 | a :: xs, b :: bs, h => by
  simp only [List.map_cons, List.cons.injEq] at h
  simp only [bm, List.length_append, h.1, rD h.2]
theorem BQ : ∀ (ps : List PT) (i : Nat), iE ps (bf i ps)
 | [], _ => trivial
 | p :: ps, i => ⟨by cases p <;> first | rfl | simp [mp, PT.nI], BQ ps (i + 1)⟩
mutual
theorem kF (τ : Nat → Nat) : ∀ q : PV, clean q = true → mc τ q = q ∧ be q = []
 | .junk, _ => ⟨rfl, rfl⟩
 | .d _, _ => ⟨rfl, rfl⟩
 | .fe _, _ => ⟨rfl, rfl⟩
 | .ptr _ _, h => by cases h
 | .row _ _, h => by cases h
 | .re _ _ _ _, h => by cases h
 | .vw _ _ _ _, h => by cases h
 | .ag cs, h => by simp only [mc, be]; rw [(fx τ cs h).1, (fx τ cs h).2]; exact ⟨rfl, rfl⟩
 | .tup cs, h => by simp only [mc, be]; rw [(fx τ cs h).1, (fx τ cs h).2]; exact ⟨rfl, rfl⟩
 | .fn f ps qs, h => by
  have h : (cI ps && cI qs) = true := h
  rw [Bool.and_eq_true] at h
  simp only [mc, be]; rw [(fx τ ps h.1).1, (fx τ qs h.2).1, (fx τ ps h.1).2, (fx τ qs h.2).2]; exact ⟨rfl, rfl⟩
theorem fx (τ : Nat → Nat) : ∀ cs : List PV, cI cs = true → eZ τ cs = cs ∧ bI cs = []
 | [], _ => ⟨rfl, rfl⟩
 | c :: cs, h => by
  simp only [cI, Bool.and_eq_true] at h
  simp only [eZ, bI]; rw [(kF τ c h.1).1, (fx τ cs h.2).1, (kF τ c h.1).2, (fx τ cs h.2).2]; exact ⟨rfl, rfl⟩
end
theorem ER (τ : Nat → Nat) : ∀ (rows : List (Nat × Nat × Nat × Ty)) (is : List Nat) (j : Nat), pu (l8 rows (is.map τ)) j = (pu (l8 rows is) j).map fun r => (τ r.1, r.2)
 | [], is, j => by cases is <;> rfl
 | (j0, e, k, t) :: rows, [], j => rfl
 | (j0, e, k, t) :: rows, R :: is, j => by
  simp only [List.map_cons, l8, pu]
  split
  ·rfl
  ·exact ER τ rows is j
theorem Jq (τ : Nat → Nat) (rows : List (Nat × Nat × Nat × Ty)) (is : List Nat) : ∀ (ds : List D) (j : Nat), dY (l8 rows (is.map τ)) j ds = eZ τ (dY (l8 rows is) j ds)
 | [], _ => rfl
 | d :: ds, j => by
  simp only [dY, eZ, Jq τ rows is ds (j + 1), ER]
  congr 1
  cases pu (l8 rows is) j with
  | none => rfl
  | some r =>
   obtain ⟨R, e, k, t⟩ := r
   cases d <;> rfl
theorem AJ (τ : Nat → Nat) (rows : List (Nat × Nat × Nat × Ty)) (is : List Nat) : ∀ (ds : List D) (j : Nat), ch (l8 rows (is.map τ)) j ds = l9 τ (ch (l8 rows is) j ds)
 | [], _ => rfl
 | d :: ds, j => by
  simp only [ch, ER]
  cases pu (l8 rows is) j with
  | none => exact AJ τ rows is ds (j + 1)
  | some r =>
   obtain ⟨R, e, k, t⟩ := r
   cases d with
   | v => exact AJ τ rows is ds (j + 1)
   | sl es => simp only [Option.map_some, l9, AJ τ rows is ds (j + 1)]; rfl
theorem ue (τ : Nat → Nat) : ∀ (a b : BU), l9 τ (a ++ b) = l9 τ a ++ l9 τ b
 | [], b => rfl
 | (t, B) :: a, b => by simp only [List.cons_append, l9, ue τ a b]
theorem g8 : ∀ (a b : BU), bU (a ++ b) = bU a ++ bU b
 | [], b => rfl
 | (t, B) :: a, b => by simp only [List.cons_append, bU, g8 a b]
theorem Mt (τ : Nat → Nat) : ∀ (a : BU), bU (l9 τ a) = (bU a).map τ
 | [] => rfl
 | (t, B) :: a => by simp only [l9, bU, Mt τ a, List.map_cons]
theorem Jd (τ : Nat → Nat) (p : PT) (is : List Nat) (x : p.den) : toI p (is.map τ) x = (mc τ (toI p is x).1, l9 τ (toI p is x).2) := by
 cases p with
 | io => rfl
 | lf t => simp only [toI]; rw [(kF τ _ (dG (.lf t) x)).1]; rfl
 | ag t => simp only [toI]; rw [(kF τ _ (dG (.ag t) x)).1]; rfl
 | pl t => simp only [toI]; rw [(kF τ _ (dG (.pl t) x)).1]; rfl
 | ps t => simp only [toI]; rw [(kF τ _ (dG (.ps t) x)).1]; rfl
 | fn f a b => simp only [toI]; rw [(kF τ _ (dG (.fn f a b) x)).1]; rfl
 | own e k t => match is with
  | [] => rfl
  | [i] => rfl
  | _ :: _ :: _ => rfl
 | mv e k t => match is with
  | [] => rfl
  | [i] => rfl
  | _ :: _ :: _ => rfl
 | bx ty n rows => match is with
  | [] => rfl
  | i :: is => simp only [toI, List.map_cons, Jq, AJ]; rfl
 | agr n rows => simp only [toI, Jq, AJ]; rfl
theorem K9 (τ : Nat → Nat) : ∀ (ps : List PT) (iss : List (List Nat)) (x : cp ps), dW ps (iss.map (·.map τ)) x = (eZ τ (dW ps iss x).1, l9 τ (dW ps iss x).2)
 | [], iss, x => by cases iss <;> rfl
 | p :: ps, [], x => rfl
 | p :: ps, is :: iss, x => by simp only [List.map_cons, dW, Jd, K9 τ ps iss x.2, eZ, ue]
theorem Az (τ : Nat → Nat) : ∀ (rs : List PT) (iss : List (List Nat)) (x : a8 rs), cQ rs (iss.map (·.map τ)) x = (eZ τ (cQ rs iss x).1, l9 τ (cQ rs iss x).2)
 | [], iss, x => by cases iss <;> rfl
 | [p], [], x => rfl
 | [p], is :: iss, x => by
  have h := Jd τ p is x
  show ([(toI p (is.map τ) x).1], (toI p (is.map τ) x).2) = ([mc τ (toI p is x).1], l9 τ (toI p is x).2)
  exact congrArg (fun z : PV × BU => ([z.1], z.2)) h
 | p :: q :: l, [], x => rfl
 | p :: q :: l, is :: iss, x => by
  have h1 := Jd τ p is x.1
  have h2 := Az τ (q :: l) iss x.2
  have h3 : ((toI p (is.map τ) x.1).1 :: (cQ (q :: l) (iss.map (·.map τ)) x.2).1, (toI p (is.map τ) x.1).2 ++ (cQ (q :: l) (iss.map (·.map τ)) x.2).2) = (mc τ (toI p is x.1).1 :: eZ τ (cQ (q :: l) iss x.2).1, l9 τ (toI p is x.1).2 ++ l9 τ (cQ (q :: l) iss x.2).2) :=
   congr (f₁ := fun (y : List PV × BU) => ((toI p (is.map τ) x.1).1 :: y.1, (toI p (is.map τ) x.1).2 ++ y.2)) (f₂ := fun (y : List PV × BU) => (mc τ (toI p is x.1).1 :: y.1, l9 τ (toI p is x.1).2 ++ y.2)) (congrArg (fun (z : PV × BU) (y : List PV × BU) => (z.1 :: y.1, z.2 ++ y.2)) h1) h2
  refine h3.trans ?_
  rw [← ue]; rfl
theorem XP (τ : Nat → Nat) (qs : List PV) : mc τ (yw qs) = yw (eZ τ qs) := by
 match qs with
 | [] => rfl
 | [q] => rfl
 | q :: q' :: qs => rfl
theorem K8 (τi τ : Nat → Nat) : ∀ (ps : List PT) (ls : List IB) (i : Nat) (iss kss : List (List Nat)) (x : cp ps) (o : yu ls), OB ps ls = true → iE ps iss → jS ls kss → (∀ s ∈ dp i ls, τ s = τi s) → (bf i ps).map (·.map τi) = iss → Sk ps ls iss (kss.map (·.map τ)) x o = l9 τ (rR i ls kss o)
 | [], [], i, iss, kss, x, o, _, _, _, _, _ => rfl
 | [], _ :: _, _, _, _, _, _, h, _, _, _, _ => by cases h
 | _ :: _, [], _, _, _, _, _, h, _, _, _, _ => by cases h
 | p :: ps, b :: ls, i, [], kss, x, o, _, h, _, _, _ => h.elim
 | p :: ps, b :: ls, i, is :: iss, [], x, o, _, _, h, _, _ => h.elim
 | p :: ps, b :: ls, i, is :: iss, js :: kss, x, o, hio, hs, hk, hkk, he => by
  simp only [OB] at hio
  split at hio
  ·rename_i h1
   simp only [bf, List.map_cons, List.cons.injEq] at he
   obtain ⟨e1, e2⟩ := he
   have hk2 : ∀ s ∈ dp (i + 1) ls, τ s = τi s := fun s hs => hkk s (by cases b <;> simp [dp, hs])
   have ih := K8 τi τ ps ls (i + 1) iss kss x.2 o.2 hio hs.2 hk.2 hk2 e2
   simp only [List.map_cons, Sk, rR, ue, ih]
   congr 1
   cases p with
   | own e k t => cases b with
    | own e' k' t' =>
     subst e1
     have := hkk (tR i) (by simp [dp])
     simp only [toO, mp, List.map_cons, List.map_nil, boI, l9, this]; rfl
    | _ => cases h1
   | bx ty n rows => cases b with
    | bx ty' n' rows' =>
     subst e1
     have := hkk (tR i) (by simp [dp])
     simp only [toO, mp, List.map_cons, boI, l9, Jq, AJ, this]; rfl
    | _ => cases h1
   | mv => cases b <;> first | rfl | cases h1
   | lf => cases b <;> first | rfl | cases h1
   | ag => cases b <;> first | rfl | cases h1
   | pl => cases b <;> first | rfl | cases h1
   | ps => cases b <;> first | rfl | cases h1
   | fn => cases b <;> first | rfl | cases h1
   | agr => cases h1
   | io => cases h1
  ·cases hio
def gO (l : BU) : Prop := ∀ t B, (t, B) ∈ l → ∀ s ∈ Lr B, s ∈ bU l
theorem gO.app {a b : BU} (h : gO a) (h' : gO b) : gO (a ++ b) := fun t B hm s hs => by
 rw [g8, List.mem_append]
 rcases List.mem_append.1 hm with hm | hm
 ·exact .inl (h t B hm s hs)
 ·exact .inr (h' t B hm s hs)
theorem gO.u {l : BU} (h : gO l) : J2 l := fun t B hl => h t B (oI hl)
theorem Jr {rows : List (Nat × Nat × Nat × Nat × Ty)} : ∀ (ds : List D) (j : Nat), ∀ s ∈ bI (dY rows j ds), s ∈ bU (ch rows j ds)
 | [], _, s, h => by cases h
 | d :: ds, j, s, h => by
  simp only [dY, bI, List.mem_append] at h
  simp only [ch]
  have ih := Jr (rows := rows) ds (j + 1) s
  cases hf : pu rows j with
  | none =>
   rw [hf] at h
   exact ih (h.resolve_left (by simp [be]))
  | some r =>
   obtain ⟨R, e, k, t⟩ := r
   rw [hf] at h
   cases d with
   | v => exact ih (h.resolve_left (by simp [be]))
   | sl es =>
    simp only [bU, List.mem_cons]
    rcases h with h | h
    ·simp only [be, List.mem_cons, List.not_mem_nil, or_false] at h; exact .inl h
    ·exact .inr (ih h)
theorem oZ {rows : List (Nat × Nat × Nat × Nat × Ty)} : ∀ (ds : List D) (j : Nat) t B, (t, B) ∈ ch rows j ds → Lr B = [] ∧ ∃ e k es, B = .rw e k es
 | [], _, t, B, h => by cases h
 | d :: ds, j, t, B, h => by
  simp only [ch] at h
  split at h
  ·split at h
   ·rcases List.mem_cons.1 h with e | h
    ·injection e with _ e; subst e; exact ⟨rfl, _, _, _, rfl⟩
    ·exact oZ ds (j + 1) t B h
   ·exact oZ ds (j + 1) t B h
  ·exact oZ ds (j + 1) t B h
theorem Hp {rows : List (Nat × Nat × Nat × Nat × Ty)} (i : Nat) (ty : TypeId) (ds : List D) : gO ((i, .st ty (dY rows 0 ds)) :: ch rows 0 ds) := fun t B hm s hs => by
 simp only [bU, List.mem_cons]
 rcases List.mem_cons.1 hm with e | hm
 ·injection e with _ e
  subst e
  exact .inr (Jr ds 0 s hs)
 ·rw [(oZ ds 0 t B hm).1] at hs; cases hs
theorem xi (i : Nat) (e k : Nat) (t : Ty) (xs : List t.den) : gO [(i, rwU e k t xs)] := fun t B hm s hs => by
 simp only [List.mem_cons, List.not_mem_nil, or_false, Prod.mk.injEq] at hm
 rw [hm.2] at hs
 cases hs
theorem cV : gO [] := fun t B hm => by cases hm
theorem DQ (p : PT) (is : List Nat) (x : p.den) : (∀ s ∈ be (toI p is x).1, s ∈ bU (toI p is x).2) ∧ gO (toI p is x).2 := by
 have plain : ∀ {q : PV}, clean q = true → (∀ s ∈ be q, s ∈ bU []) ∧ gO [] := fun hq => ⟨fun s h => (by rw [(kF id _ hq).2] at h; cases h), cV⟩
 cases p with
 | io => exact ⟨fun s h => (by cases h), cV⟩
 | lf t => exact plain (dG (.lf t) x)
 | ag t => exact plain (dG (.ag t) x)
 | pl t => exact plain (dG (.pl t) x)
 | ps t => exact plain (dG (.ps t) x)
 | fn f a b => exact plain (dG (.fn f a b) x)
 | own e k t => match is with
  | [] => exact ⟨fun s h => (by cases h), cV⟩
  | [i] => exact ⟨fun s h => h, xi i e k t x⟩
  | _ :: _ :: _ => exact ⟨fun s h => (by cases h), cV⟩
 | mv e k t => match is with
  | [] => exact ⟨fun s h => (by cases h), cV⟩
  | [i] => exact ⟨fun s h => h, xi i e k t x⟩
  | _ :: _ :: _ => exact ⟨fun s h => (by cases h), cV⟩
 | bx ty n rows => match is with
  | [] => exact ⟨fun s h => (by cases h), cV⟩
  | i :: is => exact ⟨fun s h => by simp only [toI, be, List.mem_cons, List.not_mem_nil, or_false] at h; simp only [toI, bU, List.mem_cons]; exact .inl h, Hp i ty _⟩
 | agr n rows => exact ⟨fun s h => Jr _ 0 s h, fun t B hm s hs => by rw [(oZ _ 0 t B hm).1] at hs; cases hs⟩
theorem Ho : ∀ (ps : List PT) (iss : List (List Nat)) (x : cp ps), (∀ s ∈ bI (dW ps iss x).1, s ∈ bU (dW ps iss x).2) ∧ gO (dW ps iss x).2
 | [], iss, x => ⟨fun s h => (by cases h), cV⟩
 | p :: ps, [], x => ⟨fun s h => (by cases h), cV⟩
 | p :: ps, is :: iss, x => by
  obtain ⟨h1, h2⟩ := DQ p is x.1
  obtain ⟨h3, h4⟩ := Ho ps iss x.2
  refine ⟨fun s h => ?_, h2.app h4⟩
  simp only [dW, bI, List.mem_append] at h
  simp only [dW, g8, List.mem_append]
  exact h.imp (h1 s) (h3 s)
theorem DN : ∀ (rs : List PT) (iss : List (List Nat)) (x : a8 rs), (∀ s ∈ bI (cQ rs iss x).1, s ∈ bU (cQ rs iss x).2) ∧ gO (cQ rs iss x).2
 | [], iss, x => ⟨fun s h => (by cases h), cV⟩
 | [p], [], x => ⟨fun s h => (by cases h), cV⟩
 | [p], is :: iss, x => by
  obtain ⟨h1, h2⟩ := DQ p is (show p.den from x)
  refine ⟨fun s h => ?_, h2⟩
  have h : s ∈ be (toI p is (show p.den from x)).1 ++ [] := h
  rw [List.append_nil] at h
  exact h1 s h
 | p :: q :: l, [], x => ⟨fun s h => (by cases h), cV⟩
 | p :: q :: l, is :: iss, x => by
  obtain ⟨h1, h2⟩ := DQ p is x.1
  obtain ⟨h3, h4⟩ := DN (q :: l) iss x.2
  refine ⟨fun s h => ?_, h2.app h4⟩
  have h : s ∈ be (toI p is x.1).1 ++ bI (cQ (q :: l) iss x.2).1 := h
  show s ∈ bU ((toI p is x.1).2 ++ (cQ (q :: l) iss x.2).2)
  rw [g8, List.mem_append]
  exact (List.mem_append.1 h).imp (h1 s) (h3 s)
theorem Vq (qs : List PV) : ∀ s ∈ be (yw qs), s ∈ bI qs := by
 match qs with
 | [] => exact fun s h => by cases h
 | [q] => exact fun s h => by simpa [bI, yw] using h
 | q :: q' :: qs => exact fun s h => h
theorem Hm : ∀ {rs : List PT} {iss : List (List Nat)} {x : a8 rs} {t : Nat}, t ∈ bU (cQ rs iss x).2 → t ∈ bm iss
 | [], iss, x, t, h => by cases h
 | [p], [], x, t, h => by cases h
 | [p], is :: iss, x, t, h => by
  have h : t ∈ bU (toI p is (show p.den from x)).2 := h
  rw [rL, List.mem_append]
  obtain ⟨B, hB⟩ := cN.1 h
  exact .inl (Je (oI hB))
 | p :: q :: l, [], x, t, h => by cases h
 | p :: q :: l, is :: iss, x, t, h => by
  have h : t ∈ bU ((toI p is x.1).2 ++ (cQ (q :: l) iss x.2).2) := h
  rw [g8, List.mem_append] at h
  rw [rL, List.mem_append]
  rcases h with h | h
  ·obtain ⟨B, hB⟩ := cN.1 h
   exact .inl (Je (oI hB))
  ·exact .inr (Hm h)
theorem Yx (i : Nat) (b : IB) (js : List Nat) (o : b.den) : gO (boI i b js o) ∧ ∀ t ∈ bU (boI i b js o), t = tR i ∧ b ≠ .no ∨ t ∈ js := by
 cases b with
 | no => exact ⟨cV, fun t h => by cases h⟩
 | own e k t => exact ⟨xi _ _ _ _ _, fun t' h => by simp only [boI, bU, List.mem_cons, List.not_mem_nil, or_false] at h; exact .inl ⟨h, fun e => by cases e⟩⟩
 | bx ty n rows =>
  refine ⟨Hp _ _ _, fun t h => ?_⟩
  simp only [boI, bU, List.mem_cons] at h
  rcases h with h | h
  ·exact .inl ⟨h, fun e => by cases e⟩
  ·obtain ⟨B, hB⟩ := cN.1 h
   exact .inr (xe (oI hB))
theorem uz {i : Nat} {b : IB} {ls : List IB} {s : Nat} : s ∈ dp i (b :: ls) ↔ (s = tR i ∧ b ≠ .no) ∨ s ∈ dp (i + 1) ls := by
 cases b <;> simp [dp]
theorem FB : ∀ (ls : List IB) (i : Nat) (kss : List (List Nat)) (o : yu ls), jS ls kss → gO (rR i ls kss o) ∧ (∀ t ∈ bU (rR i ls kss o), t ∈ dp i ls ∨ t ∈ bm kss) ∧ ∀ t ∈ dp i ls, t ∈ bU (rR i ls kss o)
 | [], i, kss, o, _ => ⟨cV, fun t h => (by cases h), fun t h => by cases h⟩
 | b :: ls, i, [], o, h => h.elim
 | b :: ls, i, js :: kss, o, h => by
  obtain ⟨h1, h2⟩ := Yx i b js o.1
  obtain ⟨h3, h4, h5⟩ := FB ls (i + 1) kss o.2 h.2
  refine ⟨h1.app h3, fun t ht => ?_, fun t ht => ?_⟩
  ·simp only [rR, g8, List.mem_append] at ht
   rw [uz, rL, List.mem_append]
   rcases ht with ht | ht
   ·rcases h2 t ht with h6 | h6
    ·exact .inl (.inl h6)
    ·exact .inr (.inl h6)
   ·rcases h4 t ht with h6 | h6
    ·exact .inl (.inr h6)
    ·exact .inr (.inr h6)
  ·rw [uz] at ht
   simp only [rR, g8, List.mem_append]
   rcases ht with ⟨rfl, hb⟩ | ht
   ·left
    cases b with
    | no => exact absurd rfl hb
    | own => simp [boI, bU]
    | bx => simp [boI, bU]
   ·exact .inr (h5 t ht)
theorem LW : ∀ (ls : List IB) (i : Nat), ∀ s ∈ dp i ls, 1000000 ≤ s
 | [], i, s, h => by cases h
 | b :: ls, i, s, h => by
  rw [uz] at h
  rcases h with ⟨rfl, _⟩ | h
  ·unfold tR; omega
  ·exact LW ls (i + 1) s h
theorem BO : ∀ (ps : List PT) (ls : List IB) (i : Nat) (x : cp ps), OB ps ls = true →
  (∀ s ∈ dp i ls, s ∈ bU (dW ps (bf i ps) x).2) ∧ ∀ t B, (t, B) ∈ (dW ps (bf i ps) x).2 → t ∉ dp i ls → (∃ e k es, B = .rw e k es) ∧ t ∈ pn ps (bf i ps)
 | [], [], i, x, _ => ⟨fun s h => (by cases h), fun t B h => by cases h⟩
 | [], _ :: _, _, _, h => by cases h
 | _ :: _, [], _, _, h => by cases h
 | p :: ps, b :: ls, i, x, hio => by
  simp only [OB] at hio
  split at hio
  ·rename_i h1
   obtain ⟨k1, k2⟩ := BO ps ls (i + 1) x.2 hio
   have head : (b ≠ .no → tR i ∈ bU (toI p (mp i p) x.1).2) ∧ ∀ t B, (t, B) ∈ (toI p (mp i p) x.1).2 → ¬ (t = tR i ∧ b ≠ .no) → (∃ e k es, B = .rw e k es) ∧ t ∈ H6 p (mp i p) := by
    cases p with
    | own e k t => cases b with
     | own e' k' t' =>
      refine ⟨fun _ => by simp [toI, mp, bU], fun t B hm hn => ?_⟩
      simp only [toI, mp, List.mem_cons, List.not_mem_nil, or_false, Prod.mk.injEq] at hm
      exact absurd ⟨hm.1, fun e => by cases e⟩ hn
     | _ => cases h1
    | mv e k t => cases b with
     | no =>
      refine ⟨fun h => absurd rfl h, fun t B hm _ => ?_⟩
      simp only [toI, mp, List.mem_cons, List.not_mem_nil, or_false, Prod.mk.injEq] at hm
      obtain ⟨rfl, rfl⟩ := hm
      exact ⟨⟨_, _, _, rfl⟩, by simp [H6, mp]⟩
     | _ => cases h1
    | bx ty n rows => cases b with
     | bx ty' n' rows' =>
      refine ⟨fun _ => by simp [toI, mp, bU], fun t B hm hn => ?_⟩
      simp only [toI, mp] at hm
      rcases List.mem_cons.1 hm with e | hm
      ·injection e with e _
       exact absurd ⟨e, fun e => by cases e⟩ hn
      ·exact ⟨(oZ _ 0 t B hm).2, xe hm⟩
     | _ => cases h1
    | lf => cases b <;> first | exact ⟨fun h => absurd rfl h, fun t B hm => by cases hm⟩ | cases h1
    | ag => cases b <;> first | exact ⟨fun h => absurd rfl h, fun t B hm => by cases hm⟩ | cases h1
    | pl => cases b <;> first | exact ⟨fun h => absurd rfl h, fun t B hm => by cases hm⟩ | cases h1
    | ps => cases b <;> first | exact ⟨fun h => absurd rfl h, fun t B hm => by cases hm⟩ | cases h1
    | fn => cases b <;> first | exact ⟨fun h => absurd rfl h, fun t B hm => by cases hm⟩ | cases h1
    | agr => cases h1
    | io => cases h1
   refine ⟨fun s hs => ?_, fun t B hm hn => ?_⟩
   ·simp only [bf, dW, g8, List.mem_append]
    rcases uz.1 hs with ⟨rfl, h⟩ | h
    ·exact .inl (head.1 h)
    ·exact .inr (k1 s h)
   ·simp only [bf, dW] at hm
    simp only [bf, pn, List.mem_append]
    rw [uz, not_or] at hn
    rcases List.mem_append.1 hm with hm | hm
    ·obtain ⟨q1, q2⟩ := head.2 t B hm hn.1
     exact ⟨q1, .inl q2⟩
    ·obtain ⟨q1, q2⟩ := k2 t B hm hn.2
     exact ⟨q1, .inr q2⟩
  ·cases hio
theorem H4 (τ : Nat → Nat) : ∀ (ps : List PT) (iss : List (List Nat)), pn ps (iss.map (·.map τ)) = (pn ps iss).map τ
 | [], iss => by cases iss <;> rfl
 | p :: ps, [] => rfl
 | p :: ps, is :: iss => by
  simp only [List.map_cons, pn, H4 τ ps iss, List.map_append]
  congr 1
  cases p with
  | bx => cases is <;> rfl
  | _ => rfl
theorem EF : ∀ (ps : List PT) (iss : List (List Nat)), ∀ s ∈ pn ps iss, s ∈ bm iss
 | [], iss, s, h => by cases iss <;> cases h
 | p :: ps, [], s, h => by cases h
 | p :: ps, is :: iss, s, h => by
  simp only [pn, List.mem_append] at h
  rw [rL, List.mem_append]
  rcases h with h | h
  ·left
   cases p with
   | mv => exact h
   | bx => cases is with
    | nil => cases h
    | cons a is => exact List.mem_cons_of_mem _ h
   | _ => cases h
  ·exact .inr (EF ps iss s h)
theorem EG (l : BU) : ∀ (is : List Nat) (t : Nat), lkU (EH l is) t = if t ∈ is then some (match lkU l t with | some B => YN B | none => .st 0 []) else none
 | [], t => rfl
 | a :: is, t => by
  simp only [EH, lkU]
  by_cases h : t = a
  ·subst h; simp only [if_true, List.mem_cons, true_or]; rfl
  ·simp only [h, if_false, List.mem_cons, false_or]; exact EG l is t
theorem JF (a b : BU) (t : Nat) : lkU (a ++ b) t = match lkU a t with | some B => some B | none => lkU b t := by
 induction a with
 | nil => rfl
 | cons x a ih =>
  obtain ⟨j, B⟩ := x
  simp only [List.cons_append, lkU]
  split
  ·rfl
  ·exact ih
theorem Yu {P : Program} {f : FuncId} {ps rs : List PT} {x : cp ps} {r : a8 rs} (hio : OB ps (cx rs) = true) (hlen : LR ps (cx rs) x (jM rs r)) (hn0 : (bm (bf 0 ps)).Nodup) (hgk : ∀ s ∈ pn ps (bf 0 ps), s ∉ dp 0 (cx rs))
  (h : PCm P f (dW ps (bf 0 ps) x).1 (dW ps (bf 0 ps) x).2 (dp 0 (cx rs)) fun q bo => ∃ kss jss, jS (cx rs) kss ∧ iE (eY rs) jss ∧ (dp 0 (cx rs) ++ (bm kss ++ bm jss)).Nodup ∧ q = yw (cQ (eY rs) jss (iG rs r)).1 ∧ bo = rR 0 (cx rs) kss (jM rs r) ++ (cQ (eY rs) jss (iG rs r)).2) : aak P f ps rs x r := by
 refine ⟨hlen, fun iss kss jss hsi hsk hsj hnd hlt hall => ⟨h.1, fun w0 F0 ρ b w F vs args hargs hb hbn hi hv => ?_⟩⟩
 have hK := BO ps (cx rs) 0 x hio
 have hl0 := w6 (BQ ps 0) hsi
 let τi := VA (bm (bf 0 ps)) (bm iss)
 have e1 : (bm (bf 0 ps)).map τi = bm iss := Er hn0 (rD hl0)
 have e2 : (bf 0 ps).map (·.map τi) = iss := vC hl0 e1
 obtain ⟨n1, n2, n3⟩ := List.nodup_append.1 hnd
 have hinj : ∀ s ∈ bm (bf 0 ps), ∀ s' ∈ bm (bf 0 ps), τi s = τi s' → s = s' := AO (by rw [e1]; exact n1)
 have hdom : ∀ s ∈ bU (dW ps (bf 0 ps) x).2, s ∈ bm (bf 0 ps) := fun s hs => by
  obtain ⟨B, hB⟩ := cN.1 hs
  exact DP (oI hB)
 have hren := K9 τi ps (bf 0 ps) x
 rw [e2] at hren
 have hfl : ∀ s ∈ bm (bf 0 ps), s ∈ bU (dW ps (bf 0 ps) x).2 := fun s hs => by
  have h1 : τi s ∈ bm iss := by rw [← e1]; exact List.mem_map_of_mem hs
  have h2 := hall _ h1
  rw [hren] at h2
  simp only [Mt] at h2
  obtain ⟨s', h3, h4⟩ := List.mem_map.1 h2
  rw [← hinj s' (hdom s' h3) s hs h4]
  exact h3
 have hii : ∀ s ∈ bU (dW ps (bf 0 ps) x).2, ∀ s' ∈ bU (dW ps (bf 0 ps) x).2, τi s = τi s' → s = s' := fun s h1 s' h2 => hinj s (hdom s h1) s' (hdom s' h2)
 have hcl := Ho ps (bf 0 ps) x
 refine Wu (τi := τi) (N := bm kss ++ bm jss) (u := tB ps rs iss kss jss x r) h hii ?_ hlt hcl.1 (by rw [hargs, hren]) hcl.2.u w0 F0 ρ b w F vs (fun s B hs => ?_) hbn hi hv
 rotate_left
 ·have := Dn (σ := τi) hii hs
  rw [show l9 τi (dW ps (bf 0 ps) x).2 = (dW ps iss x).2 from by rw [hren]] at this
  exact hb _ _ this
 rintro q bo ⟨kss0, jss0, m1, m2, m3, rfl, rfl⟩
 have hl1 := yk m1 hsk
 have hl2 := w6 m2 hsj
 have hKf : ∀ s ∈ dp 0 (cx rs), s ∈ bm (bf 0 ps) := fun s hs => hdom s (hK.1 s hs)
 have ⟨p1, p2, p3⟩ := List.nodup_append.1 m3
 have hKn : ((dp 0 (cx rs)).map τi).Nodup := by
  have : ∀ l : List Nat, l.Nodup → (∀ s ∈ l, s ∈ bm (bf 0 ps)) → (l.map τi).Nodup := fun l => by
   induction l with
   | nil => intro _ _; exact List.nodup_nil
   | cons a l ih =>
    intro hn hs
    rw [List.nodup_cons] at hn
    rw [List.map_cons, List.nodup_cons]
    refine ⟨fun hm => ?_, ih hn.2 fun s h => hs s (List.mem_cons_of_mem _ h)⟩
    obtain ⟨s, h1, h2⟩ := List.mem_map.1 hm
    have := hinj s (hs s (List.mem_cons_of_mem _ h1)) a (hs a List.mem_cons_self) h2
    rw [this] at h1
    exact hn.1 h1
  exact this _ p1 hKf
 have htg : ((dp 0 (cx rs)).map τi ++ (bm kss ++ bm jss)).Nodup := by
  refine List.nodup_append.2 ⟨hKn, n2, fun a ha b' hb' => ?_⟩
  obtain ⟨s, h1, rfl⟩ := List.mem_map.1 ha
  exact n3 _ (by rw [← e1]; exact List.mem_map_of_mem (hKf s h1)) _ hb'
 let τ := VA (dp 0 (cx rs) ++ (bm kss0 ++ bm jss0)) ((dp 0 (cx rs)).map τi ++ (bm kss ++ bm jss))
 have et : (dp 0 (cx rs) ++ (bm kss0 ++ bm jss0)).map τ = (dp 0 (cx rs)).map τi ++ (bm kss ++ bm jss) := Er m3 (by simp [rD hl1, rD hl2])
 have hinjo := AO (f := τ) (l := dp 0 (cx rs) ++ (bm kss0 ++ bm jss0)) (by rw [et]; exact htg)
 have et2 := et
 rw [List.map_append, List.map_append] at et2
 obtain ⟨q1, q2⟩ := List.append_inj et2 (by simp)
 obtain ⟨q2, q3⟩ := List.append_inj q2 (by simp [rD hl1])
 have hτK : ∀ s ∈ dp 0 (cx rs), τ s = τi s := List.map_inj_left.1 q1
 have b1 := vC hl1 q2
 have b2 := vC hl2 q3
 obtain ⟨c1, c2, c3⟩ := FB (cx rs) 0 kss0 (jM rs r) m1
 have hbo : ∀ s ∈ bU (rR 0 (cx rs) kss0 (jM rs r) ++ (cQ (eY rs) jss0 (iG rs r)).2), s ∈ dp 0 (cx rs) ∨ s ∈ bm kss0 ++ bm jss0 := fun s hs => by
  rw [g8, List.mem_append] at hs
  rw [List.mem_append]
  rcases hs with hs | hs
  ·rcases c2 s hs with h | h
   ·exact .inl h
   ·exact .inr (.inl h)
  ·exact .inr (.inr (Hm hs))
 have hbo' : ∀ s ∈ bU (rR 0 (cx rs) kss0 (jM rs r) ++ (cQ (eY rs) jss0 (iG rs r)).2), s ∈ dp 0 (cx rs) ++ (bm kss0 ++ bm jss0) := fun s hs => List.mem_append.2 (hbo s hs)
 have hnewm : ∀ s ∈ bm kss0 ++ bm jss0, τ s ∈ bm kss ++ bm jss := fun s hs => by
  rw [← q2, ← q3, ← List.map_append]
  exact List.mem_map_of_mem hs
 have hoo : ∀ s ∈ bU (rR 0 (cx rs) kss0 (jM rs r) ++ (cQ (eY rs) jss0 (iG rs r)).2), ∀ s' ∈ bU (rR 0 (cx rs) kss0 (jM rs r) ++ (cQ (eY rs) jss0 (iG rs r)).2), τ s = τ s' → s = s' := fun s h1 s' h2 => hinjo s (hbo' s h1) s' (hbo' s' h2)
 have hfit : aaj τi τ (dW ps (bf 0 ps) x).2 (rR 0 (cx rs) kss0 (jM rs r) ++ (cQ (eY rs) jss0 (iG rs r)).2) (dp 0 (cx rs)) := by
  refine ⟨hii, hoo, fun s hs s' hs' e => ?_, fun s hs => ⟨hK.1 s hs, by rw [g8, List.mem_append]; exact .inl (c3 s hs), (hτK s hs).symm⟩⟩
  rcases hbo s' hs' with h1 | h1
  ·rw [hτK s' h1] at e
   have := hii s hs s' (hK.1 s' h1) e
   subst this
   exact ⟨rfl, h1⟩
  ·exact absurd e (n3 _ (by rw [← e1]; exact List.mem_map_of_mem (hdom s hs)) _ (hnewm s' h1))
 have hgo : pn ps iss = (pn ps (bf 0 ps)).map τi := by rw [← H4, e2]
 have hu : tB ps rs iss kss jss x r = l9 τ (rR 0 (cx rs) kss0 (jM rs r) ++ (cQ (eY rs) jss0 (iG rs r)).2) ++ EH (l9 τi (dW ps (bf 0 ps) x).2) (pn ps iss) := by
  unfold tB
  rw [hren]
  have h1 := K8 τi τ ps (cx rs) 0 iss kss0 x (jM rs r) hio hsi m1 hτK e2
  rw [b1] at h1
  have h2 := Az τ (eY rs) jss0 (iG rs r)
  rw [b2] at h2
  rw [h1, h2, ue, List.append_assoc]
 refine ⟨τ, hfit, ⟨fun s B hs => ?_, fun s B hs hk => ?_, fun i B hB => ?_⟩, ?_, fun s hs hk => ?_⟩
 ·rw [hu, JF, Dn hoo hs]
 ·have hm := oI hs
  obtain ⟨⟨e, k, es, rfl⟩, hg⟩ := hK.2 s B hm hk
  have hnone : lkU (l9 τ (rR 0 (cx rs) kss0 (jM rs r) ++ (cQ (eY rs) jss0 (iG rs r)).2)) (τi s) = none := by
   cases hl : lkU (l9 τ (rR 0 (cx rs) kss0 (jM rs r) ++ (cQ (eY rs) jss0 (iG rs r)).2)) (τi s) with
   | none => rfl
   | some C =>
    obtain ⟨s', h1, h2⟩ := uw hl
    exact absurd (hfit.io s (cN.2 ⟨_, hs⟩) s' h1 h2).2 hk
  refine ⟨e, k, es, es ++ [[]], rfl, ?_, by simp⟩
  rw [hu, JF, hnone]
  simp only
  rw [EG, if_pos (by rw [hgo]; exact List.mem_map_of_mem hg), Dn hii hs]
  rfl
 ·rw [hu, JF] at hB
  split at hB
  ·rename_i C hC
   obtain ⟨s', h1, h2⟩ := uw hC
   exact .inl ⟨s', h1, h2⟩
  ·rw [EG] at hB
   split at hB
   ·rename_i hm
    rw [hgo] at hm
    obtain ⟨s, h1, h2⟩ := List.mem_map.1 hm
    exact .inr ⟨s, hfl s (EF _ _ s h1), hgk s h1, h2.symm⟩
   ·cases hB
 ·have h2 := Az τ (eY rs) jss0 (iG rs r)
  rw [b2] at h2
  rw [XP, h2]
 ·exact hnewm s ((hbo s hs).resolve_left hk)
theorem R5 {P : Program} {T : List (Nat × Ent)} {n : Nat} {ps rs : List PT} {vars : List ResultVar} {fz : List (Nat × List Nat)} {sc : List Nat} {fb : List (Nat × List Nat)} {h : tU} {f : FuncId} {fn : Func} {c : Code} (hT : qF P T) (hm : P.follows .mixedOrders = true) (hf : P.funcs[f]? = some fn) (hb : fn.body = some c) (hcb : dN P f = true) (hn : fn.ntmps = n) (hv : fn.results.toList = vars)
  (hl : (decide (ps.length ≤ n) && (sG ps && (oN rs && (OB ps (cx rs) && (sI (bm (bf 0 ps)) && Iq (pn ps (bf 0 ps)) (dp 0 (cx rs))))))) = true)
  {F : cp ps → Option (a8 rs)} (hlen : ∀ x r, F x = some r → LR ps (cx rs) x (jM rs r)) (hF : ∀ x, Q8 ⟨P, T, n, rs, vars, fz, sc, fb⟩ c h ps x = F x) : bK P f ps rs F := by
 intro x r hx
 simp only [Bool.and_eq_true] at hl
 obtain ⟨hl1, hl2, hl3, hl4, hl5, hl6⟩ := hl
 refine ⟨fun hnM => (by rw [Bool.or_eq_false_iff, hl3] at hnM; cases hnM.2), fun _ => ?_⟩
 have hln := hlen x r hx
 rw [← hF] at hx
 have hlen := zd hl1
 subst hn
 unfold Q8 at hx
 split at hx
 rotate_left
 ·cases hx
 rename_i vs bx hen
 obtain ⟨hnd, hx⟩ := ao hx
 have hseen : v7 bx bx := by have := Dg (l' := []) (iT hnd); rw [List.append_nil] at this; exact this
 obtain ⟨hal, hargs⟩ := EX (G := []) hl2 hen hseen
 have halen : (dW ps (bf 0 ps) x).1.length = ps.length := by
  have : ∀ (ps : List PT) (i : Nat) (x : cp ps), (dW ps (bf i ps) x).1.length = ps.length := fun ps => by
   induction ps with
   | nil => intro i x; rfl
   | cons p ps ih => intro i x; simp only [bf, dW, List.length_cons, ih]
  exact this ps 0 x
 refine Yu hl4 hln (iT hl5) (fun s hs hk => ?_) ?_
 ·have := sX hl6 s (dM.2 hs)
  rw [yB] at this
  exact this hk
 refine SN hf hb hcb (by rw [halen]; exact hlen) (LW _ 0) ?_
 have hs : gR ⟨Bn 0 vs, bx, [], false, []⟩ ⟨mh (dW ps (bf 0 ps) x).1, lkU (dW ps (bf 0 ps) x).2⟩ := by
  refine ⟨fun i => ?_, fun t b hbl => ?_⟩
  ·show bc bx (lkV (Bn 0 vs) i) (mh (dW ps (bf 0 ps) x).1 i)
   have := Kh vs 0 i
   rw [Nat.zero_add] at this
   rw [this]
   unfold mh
   cases h1 : vs[i]? with
   | none => exact .junk _
   | some v =>
    have hlt : i < (dW ps (bf 0 ps) x).1.length := by rw [← hargs.len]; exact (zg.1 h1).1
    rw [zq hlt]
    exact hargs.rep i v _ h1 (zq hlt)
  ·show l7 bx true (some b) (lkU (dW ps (bf 0 ps) x).2 t)
   have hbl : lkB bx t = some b := hbl
   rcases U0 hal [] t with ⟨_, sb, b', m2, m3, m4, _⟩ | ⟨_, m2, _⟩
   ·rw [List.append_nil, hbl] at m2
    rw [m3]
    exact m4 b m2.symm
   ·rw [List.append_nil, hbl] at m2
    cases m2
 have hpr : l5 ⟨Bn 0 vs, bx, [], false, []⟩ := fun t ht => by cases ht
 have fin : ∀ {e : Exit} {p' : PS}, (match e with | .normal => True | .ret => True | _ => False) → Sc ⟨P, T, fn.ntmps, rs, vars, fz, sc, fb⟩ fn p' r → aaf P fn (dp 0 (cx rs)) (fun q bo => ∃ kss jss, jS (cx rs) kss ∧ iE (eY rs) jss ∧ (dp 0 (cx rs) ++ (bm kss ++ bm jss)).Nodup ∧ q = yw (cQ (eY rs) jss (iG rs r)).1 ∧ bo = rR 0 (cx rs) kss (jM rs r) ++ (cQ (eY rs) jss (iG rs r)).2) e p' := fun {e p'} he hr => by
  obtain ⟨kss, jss, m1, m2, m3, ⟨q, m4, m5⟩, m6⟩ := hr.2 hl3
  have m1 : jS (cx rs) kss := m1
  have m2 : iE (eY rs) jss := m2
  have m5 : qo q = yw (cQ (eY rs) jss (iG rs r)).1 := m5
  obtain ⟨c1, c2, c3⟩ := FB (cx rs) 0 kss (jM rs r) m1
  obtain ⟨d1, d2⟩ := DN (eY rs) jss (iG rs r)
  refine ⟨he, _, _, ⟨kss, jss, m1, m2, m3, rfl, rfl⟩, fun t ht => by rw [g8, List.mem_append]; exact .inl (c3 t ht), fun s hs => ?_, (c1.app d2).u, ⟨q, m4, m5⟩, fun t B ht => m6 t B (oI ht)⟩
  rw [g8, List.mem_append]
  exact .inr (d1 s (Vq _ s hs))
 refine fu (oM (C := ⟨P, T, fn.ntmps, rs, vars, fz, sc, fb⟩) (fn := fn) hT hm hv c h _ _ _ _ _ r hpr hs hx) fun e p' hq => ?_
 by_cases he : e = .ret
 ·subst he
  obtain ⟨r', h1, h3⟩ := hq
  injection h3 with h3
  subst h3
  exact ⟨p', .refl _, fin trivial h1⟩
 ·obtain ⟨s', m1, m2, m3⟩ := qt he hq
  cases e with
  | normal =>
   obtain ⟨p2, h1, h2⟩ := RA (C := ⟨P, T, fn.ntmps, rs, vars, fz, sc, fb⟩) hv (yp (m2.prOk hpr)) (rx m1) m3
   exact ⟨p2, (AW m1).trans h1, fin trivial h2⟩
  | ret => exact absurd rfl he
  | _ => cases m3
theorem XM {w : World} {B e k n : Nat} {v : Value} {xs : List Value} (h : w.ownsRow B e k v n xs) : w.ownsRow 0 e k v n xs ∧ ∀ g, blk v = some g → B ≤ g := by
 refine ⟨⟨h.1, ?_⟩, fun g hg => ?_⟩
 ·rcases h.2 with hn | ⟨g, cap, cur, rfl, hb, hr⟩
  ·exact .inl hn
  ·exact .inr ⟨g, cap, cur, rfl, Nat.zero_le _, hr⟩
 ·rcases h.2 with ⟨rfl, _⟩ | ⟨g', cap, cur, rfl, hb, hr⟩
  ·cases hg
  ·injection hg with hg; subst hg; exact hb
theorem Yt {P : Program} {f : FuncId} {ty : Ty} {e k : Nat} {F : List ty.den → Option (List ty.den)} (hk : tyN ty = k) (hk0 : 0 < k) (hcall : dN P f = true)
  (H : ∀ (xs zs : List ty.den) (w : World) (G : Nat → Prop) (v : Value), F xs = some zs → (∀ g, G g → g < w.heap.size) → ej w G v (.sl (xs.map (bR ty))) → Calls P f #[v] w fun en w' => ∃ v' us, en = .returned v' ∧ w'.ownsRow w.heap.size e k v' zs.length us ∧ Ext w w' ∧ us.length = zs.length * k ∧ ∀ (j : Nat) u d, us[j]? = some u → (zs.map (bR ty)).flatten[j]? = some d → ej w G u d) :
  bK P f [.lf (.sl ty)] [.io [.no], .own e k ty] (fun x => (F x.1).bind fun z => some (((), ()), z)) := by
 rintro ⟨xs, ⟨⟩⟩ zz hF
 change List ty.den at xs
 obtain ⟨zs, hz, hF⟩ := cO hF
 injection hF with hF
 subst hF
 refine ⟨fun h => (by cases h), fun _ => ⟨⟨trivial, trivial⟩, fun iss kss jss h1 h2 h3 h4 h5 h6 => ⟨hcall, ?_⟩⟩⟩
 match iss, h1 with
 | [is], h1 =>
 match is, h1.1 with
 | [], _ =>
 match kss, h2 with
 | [ks], h2 =>
 match ks, h2.1 with
 | [], _ =>
 match jss, h3 with
 | [js], h3 =>
 match js, h3.1 with
 | [j], _ =>
 intro w0 F0 ρ b w G vs args ha hb0 hb hi hr
 have hj : j < 1000000 := h5 j (by simp [bm])
 have hbj : b j = none := hb j (by simp [bm])
 have hal : args.length = 1 := by rw [← ir args, ha]; rfl
 match args, hal with
 | [a], _ =>
 have ha : qo a = .d (.sl (xs.map (bR ty))) := by
  simp only [dL, dW, toI, List.cons.injEq] at ha
  exact ha.1
 have hvl : vs.toList.length = 1 := hr.len
 obtain ⟨v, hv⟩ : ∃ v, vs = #[v] := by
  match hv : vs.toList, hvl with
  | [v], _ => exact ⟨v, by apply Array.ext'; simpa using hv⟩
 subst hv
 have hrep := (hr.rep 0 v a rfl rfl).nrmd
 rw [ha] at hrep
 have hd : ej w G v (.sl (xs.map (bR ty))) := by
  cases hrep with
  | d _ _ h => exact h
 refine (H xs zs w G v hz hi.flt hd).mono ?_
 rintro en w' ⟨v', us, rfl, ho, hx, hl, hu⟩
 obtain ⟨ho0, hbase⟩ := XM ho
 have hzl : ∀ x ∈ zs.map (bR ty), x.length = k := fun x hx => by
  obtain ⟨y, _, rfl⟩ := List.mem_map.1 hx
  rw [px, hk]
 have := Em (P := P) (t := j) (e := e) (k := k) (es := zs.map (bR ty)) (xs := us) (v := v') (w' := w') hi hj hbj hk0 hx hbase (by rw [List.length_map]; exact ho0) hzl (by rw [hl, cK k _ hzl, List.length_map]) hu
 obtain ⟨v2, w2, ρ', e1, k1, k2, k3⟩ := this
 injection e1 with e1 e2
 subst e1 e2
 have hU : dD b (tB [.lf (.sl ty)] [.io [.no], .own e k ty] [[]] [[]] [[j]] (xs, ()) (((), ()), zs)) = dm b (some (j, .rw e k (zs.map (bR ty)))) := by
  rw [← Bm]; rfl
 rw [hU]
 refine ⟨v', ρ', G, rfl, k1, k2, ?_⟩
 rw [List.length_map] at k3
 exact k3
theorem Ys {P : Program} {f : FuncId} {F : cp [.lf .str] → Option (a8 [.lf .str])} (hcall : dN P f = true)
  (H : ∀ (x z : ByteArray) (w : World), F (x, ()) = some z → Calls P f #[.string x] w fun en w' => en = .returned (.string z) ∧ Ext w w') : bK P f [.lf .str] [.lf .str] F := by
 rintro ⟨x, ⟨⟩⟩ z hF
 refine ⟨fun _ => ⟨hcall, fun w G vs hG hr => ?_⟩, fun h => (by cases h)⟩
 have hvl : vs.toList.length = 1 := hr.len
 obtain ⟨v, hv⟩ : ∃ v, vs = #[v] := by
  match hv : vs.toList, hvl with
  | [v], _ => exact ⟨v, by apply Array.ext'; simpa using hv⟩
 subst hv
 obtain ⟨rfl, _⟩ := aK.vv (hr.rep 0 v _ rfl rfl)
 refine (H x z w hF).mono ?_
 rintro en w' ⟨rfl, hx⟩
 exact ⟨_, G, rfl, hx, fun _ h => h, fun g hg => Nat.lt_of_lt_of_le (hG g hg) hx.size, fun _ h => .inl h, .d _ _ (.v _ rfl)⟩
theorem kZ {w w' : World} {base : Nat} {e : TypeId} {k : Nat} {v : Value} {n : Nat} {xs : List Value} (h : w.ownsRow base e k v n xs) (x : Ext w w') : w'.ownsRow base e k v n xs := by
 refine ⟨h.1, ?_⟩
 rcases h.2 with hn | ⟨g, cap, cur, rfl, hb, hg, hr⟩
 ·exact .inl hn
 ·exact .inr ⟨g, cap, cur, rfl, hb, (x.block g (Array.getElem?_eq_some_iff.1 hg).1).trans hg, hr⟩
def RdK (k : Nat) (w : World) (v : Value) (n : Nat) (xs : List Value) : Prop :=
 ∃ A c, v = .slice A n c ∧ n ≤ c ∧ c ≤ maxLen ∧ xs.length = n * k ∧ (0 < xs.length → ∃ a, A = some a ∧ a.block < w.heap.size ∧ ∀ j u, xs[j]? = some u → w.cell? (a.add j) = some u)
theorem RdK.of_own {k : Nat} {w : World} {base : Nat} {e : TypeId} {v : Value} {n : Nat} {xs : List Value} (h : w.ownsRow base e k v n xs) : RdK k w v n xs := by
 have hl := h.1
 rcases h.2 with ⟨rfl, h0⟩ | ⟨g, cap, cur, rfl, _, hg, hc, hm, _⟩
 ·subst h0; exact ⟨none, 0, rfl, Nat.le_refl _, by simp [maxLen], hl, fun hn => by omega⟩
 ·exact ⟨_, cap, rfl, hc, hm, hl, fun hn => ⟨⟨g, 0, none⟩, rfl, (Array.getElem?_eq_some_iff.1 hg).1, h.cells (g := g) rfl⟩⟩
theorem cD {w : World} {B e k n : Nat} {v : Value} {xs : List Value} (h : w.ownsRow B e k v n xs) : ∃ A c, v = .slice A n c ∧ n ≤ c ∧ c ≤ 9223372036854775807 := by
 rcases h.2 with ⟨rfl, h0⟩ | ⟨g, cap, cur, rfl, _, _, hc, hm, _⟩
 ·subst h0; exact ⟨none, 0, rfl, Nat.le_refl _, by omega⟩
 ·unfold maxLen at hm; exact ⟨_, cap, rfl, hc, by omega⟩
theorem Fy (w : World) (x y z : Value) (t : TypeId) : ∀ j u, [x, y, z][j]? = some u → (w.alloc (.cells #[x, y, z] t)).cell? ((⟨w.heap.size, 0, none⟩ : Addr).add j) = some u := by
 intro j u hu
 have hadd : (⟨w.heap.size, 0, none⟩ : Addr).add j = ⟨w.heap.size, j, none⟩ := by unfold Addr.add; split <;> simp_all
 rw [hadd, cell_of_row _ w.heap.size j _ t (0, 0) (heap_alloc_new w _), ← Array.getElem?_toList]
 exact hu
theorem Zg {w : World} {B B' e e' k k' n n' : Nat} {v v' : Value} {xs xs' : List Value} (h : w.ownsRow B e k v n xs) (h' : w.ownsRow B' e' k' v' n' xs') (he : e ≠ e') : v.ownBlock = none ∨ v.ownBlock ≠ v'.ownBlock := by
 rcases h.2 with ⟨rfl, _⟩ | ⟨g, cap, cur, rfl, _, hg, _⟩
 ·exact .inl rfl
 ·refine .inr fun e1 => ?_
  rcases h'.2 with ⟨rfl, _⟩ | ⟨g', cap', cur', rfl, _, hg', _⟩
  ·cases e1
  ·simp [Value.ownBlock] at e1
   subst e1
   rw [hg] at hg'
   injection hg' with hg'
   injection hg' with _ h2
   exact he h2
theorem fv (W : World) (B : Nat) (e : TypeId) (k : Nat) (h : B ≤ W.heap.size) : (W.alloc (.cells #[] e)).ownsRow B e k (.slice (some ⟨W.heap.size, 0, none⟩) 0 0) 0 [] :=
 ⟨by simp, .inr ⟨W.heap.size, 0, #[], rfl, h, heap_alloc_new W _, Nat.le_refl _, by simp [maxLen], by simp, by simp⟩⟩
section
section
variable {P : Program} (w : World)
end
end
def gH (k : Nat) (t : TypeId) (n : Nat) (xs : List Value) (w : World) (e : Ending) (w' : World) : Prop := ∃ A' c', e = .returned (.slice A' n c') ∧ w'.ownsRow w.heap.size t k (.slice A' n c') n xs ∧ Ext w w'
theorem Tryz.infoClNode : (prog.info? 72).map (fun i => (i.zero, i.size, i.bytes)) = some (some (.agg #[.int .i64 0, .int .i64 0, .int .i64 0, .int .i64 0, .int .i64 0, .int .i64 0, .int .i64 0, .bool false]), 8, 64) := by kernel_rfl
theorem GY (v : Value) (n : Nat) (xs : List Value) (w : World) (h : RdK 8 w v n xs) (h1 : ∀ u ∈ xs, u.oneCell' = true) (h2 : n ≤ 1000000) :
  Calls prog 62 #[v] w (gH 8 72 n xs w) := by
 obtain ⟨c0, hc, hcz0, hcz1, hcz2⟩ := info_parts Tryz.infoClNode
 obtain ⟨A, c, rfl, hc1, hc2, hl, hcell⟩ := h
 have hn := fun (W : World) (A : Option Addr) (n c n' c' : Nat) => Lib.run_eql_slice_nil (P := prog) W 37 72 A n c n' c' Tryz.underlying37
 have HL := Lib.hid hl
 have H1 := Lib.hid h1
 cases A with
 | none =>
  have hx : xs = [] := by
   rcases xs with _ | ⟨x, xs⟩
   ·rfl
   ·obtain ⟨a, e, _⟩ := hcell (by simp)
    cases e
  subst hx
  have hn0 : n = 0 := by simp at hl; omega
  subst hn0
  clear hcell hl
  go_enter Tryz.func62, Tryz.ntmps62
  go_wp2
  go_ret
  exact ⟨none, 0, rfl, World.ownsRow_nil _ _ _ 8, Ext.refl _⟩
 | some a =>
  have HO := Lib.hid (fv w w.heap.size 72 8 (Nat.le_refl _))
  have HCS := Lib.hid (show ∀ (j : Nat) (u : Value), xs[j]? = some u → (w.alloc (.cells #[] 72)).cell? (a.add j) = some u from fun j u hu => by
   obtain ⟨a', e, hb, hcs⟩ := hcell (by have := (zg.1 hu).1; omega)
   obtain rfl : a = a' := Option.some.inj e
   exact (Below.cell (aO w _) (p := a.add j) (by rw [cZ]; exact hb)).trans (hcs j u hu))
  clear hcell hl h1
  go_enter Tryz.func62, Tryz.ntmps62
  go_wp2_with (at_builtin; go_loud (refine wpList_append_own_at _ rfl (.tmp 5) (.tmp 6) 37 rfl w.heap.size 72 c0 _ 8 64 Tryz.underlying37 hc hcz0 hcz1 hcz2 rfl (by decide) _ 0 [] rfl HO.out a n c xs rfl HL.out HCS.out H1.out ?c3 ?c4 ?c5 ?_))
  case c3 => simp [maxLen]; omega
  case c4 => omega
  case c5 => simp
  intro v' w3 ho3 hg3 _ hat3
  have HE := Lib.hid ((aO w (.cells #[] 72)).trans' (cJ hg3 (by simp) (fun k hk => by simp [Value.ownBlock] at hk; omega)))
  have HO3 := Lib.hid ho3
  obtain ⟨A3, c3, rfl, _, _⟩ := cD ho3
  clear ho3 hg3 hat3
  go_wp2
  go_ret
  exact ⟨_, _, rfl, HO3.out, HE.out⟩
theorem Tryz.infoClCont : (prog.info? 91).map (fun i => (i.zero, i.size, i.bytes)) = some (some (.agg #[.int .i64 0, .int .i64 0, .int .i64 0, .int .i64 0, .int .i64 0, .int .i64 0, .int .i64 0, .bool false, .int .i64 0]), 9, 72) := by kernel_rfl
theorem GZ (v : Value) (n : Nat) (xs : List Value) (w : World) (h : RdK 9 w v n xs) (h1 : ∀ u ∈ xs, u.oneCell' = true) (h2 : n ≤ 1000000) :
  Calls prog 64 #[v] w (gH 9 91 n xs w) := by
 obtain ⟨c0, hc, hcz0, hcz1, hcz2⟩ := info_parts Tryz.infoClCont
 obtain ⟨A, c, rfl, hc1, hc2, hl, hcell⟩ := h
 have hn := fun (W : World) (A : Option Addr) (n c n' c' : Nat) => Lib.run_eql_slice_nil (P := prog) W 39 91 A n c n' c' Tryz.underlying39
 have HL := Lib.hid hl
 have H1 := Lib.hid h1
 cases A with
 | none =>
  have hx : xs = [] := by
   rcases xs with _ | ⟨x, xs⟩
   ·rfl
   ·obtain ⟨a, e, _⟩ := hcell (by simp)
    cases e
  subst hx
  have hn0 : n = 0 := by simp at hl; omega
  subst hn0
  clear hcell hl
  go_enter Tryz.func64, Tryz.ntmps64
  go_wp2
  go_ret
  exact ⟨none, 0, rfl, World.ownsRow_nil _ _ _ 9, Ext.refl _⟩
 | some a =>
  have HO := Lib.hid (fv w w.heap.size 91 9 (Nat.le_refl _))
  have HCS := Lib.hid (show ∀ (j : Nat) (u : Value), xs[j]? = some u → (w.alloc (.cells #[] 91)).cell? (a.add j) = some u from fun j u hu => by
   obtain ⟨a', e, hb, hcs⟩ := hcell (by have := (zg.1 hu).1; omega)
   obtain rfl : a = a' := Option.some.inj e
   exact (Below.cell (aO w _) (p := a.add j) (by rw [cZ]; exact hb)).trans (hcs j u hu))
  clear hcell hl h1
  go_enter Tryz.func64, Tryz.ntmps64
  go_wp2_with (at_builtin; go_loud (refine wpList_append_own_at _ rfl (.tmp 5) (.tmp 6) 39 rfl w.heap.size 91 c0 _ 9 72 Tryz.underlying39 hc hcz0 hcz1 hcz2 rfl (by decide) _ 0 [] rfl HO.out a n c xs rfl HL.out HCS.out H1.out ?c3 ?c4 ?c5 ?_))
  case c3 => simp [maxLen]; omega
  case c4 => omega
  case c5 => simp
  intro v' w3 ho3 hg3 _ hat3
  have HE := Lib.hid ((aO w (.cells #[] 91)).trans' (cJ hg3 (by simp) (fun k hk => by simp [Value.ownBlock] at hk; omega)))
  have HO3 := Lib.hid ho3
  obtain ⟨A3, c3, rfl, _, _⟩ := cD ho3
  clear ho3 hg3 hat3
  go_wp2
  go_ret
  exact ⟨_, _, rfl, HO3.out, HE.out⟩
theorem Tryz.infoClSlot : (prog.info? 93).map (fun i => (i.zero, i.size, i.bytes)) = some (some (.agg #[.int .i64 0, .int .i64 0, .int .i64 0]), 3, 24) := by kernel_rfl
theorem GW (v : Value) (n : Nat) (xs : List Value) (w : World) (h : RdK 3 w v n xs) (h1 : ∀ u ∈ xs, u.oneCell' = true) (h2 : n ≤ 1000000) :
  Calls prog 65 #[v] w (gH 3 93 n xs w) := by
 obtain ⟨c0, hc, hcz0, hcz1, hcz2⟩ := info_parts Tryz.infoClSlot
 obtain ⟨A, c, rfl, hc1, hc2, hl, hcell⟩ := h
 have hn := fun (W : World) (A : Option Addr) (n c n' c' : Nat) => Lib.run_eql_slice_nil (P := prog) W 40 93 A n c n' c' Tryz.underlying40
 have HL := Lib.hid hl
 have H1 := Lib.hid h1
 cases A with
 | none =>
  have hx : xs = [] := by
   rcases xs with _ | ⟨x, xs⟩
   ·rfl
   ·obtain ⟨a, e, _⟩ := hcell (by simp)
    cases e
  subst hx
  have hn0 : n = 0 := by simp at hl; omega
  subst hn0
  clear hcell hl
  go_enter Tryz.func65, Tryz.ntmps65
  go_wp2
  go_ret
  exact ⟨none, 0, rfl, World.ownsRow_nil _ _ _ 3, Ext.refl _⟩
 | some a =>
  have HO := Lib.hid (fv w w.heap.size 93 3 (Nat.le_refl _))
  have HCS := Lib.hid (show ∀ (j : Nat) (u : Value), xs[j]? = some u → (w.alloc (.cells #[] 93)).cell? (a.add j) = some u from fun j u hu => by
   obtain ⟨a', e, hb, hcs⟩ := hcell (by have := (zg.1 hu).1; omega)
   obtain rfl : a = a' := Option.some.inj e
   exact (Below.cell (aO w _) (p := a.add j) (by rw [cZ]; exact hb)).trans (hcs j u hu))
  clear hcell hl h1
  go_enter Tryz.func65, Tryz.ntmps65
  go_wp2_with (at_builtin; go_loud (refine wpList_append_own_at _ rfl (.tmp 5) (.tmp 6) 40 rfl w.heap.size 93 c0 _ 3 24 Tryz.underlying40 hc hcz0 hcz1 hcz2 rfl (by decide) _ 0 [] rfl HO.out a n c xs rfl HL.out HCS.out H1.out ?c3 ?c4 ?c5 ?_))
  case c3 => simp [maxLen]; omega
  case c4 => omega
  case c5 => simp
  intro v' w3 ho3 hg3 _ hat3
  have HE := Lib.hid ((aO w (.cells #[] 93)).trans' (cJ hg3 (by simp) (fun k hk => by simp [Value.ownBlock] at hk; omega)))
  have HO3 := Lib.hid ho3
  obtain ⟨A3, c3, rfl, _, _⟩ := cD ho3
  clear ho3 hg3 hat3
  go_wp2
  go_ret
  exact ⟨_, _, rfl, HO3.out, HE.out⟩
theorem Tryz.infoClPlan : (prog.info? 74).map (fun i => (i.zero, i.size, i.bytes)) = some (some (.agg #[.int .i64 0, .int .i64 0, .int .i64 0, .int .i64 0, .int .i64 0, .int .i64 0]), 6, 48) := by kernel_rfl
theorem GX (v : Value) (n : Nat) (xs : List Value) (w : World) (h : RdK 6 w v n xs) (h1 : ∀ u ∈ xs, u.oneCell' = true) (h2 : n ≤ 1000000) :
  Calls prog 66 #[v] w (gH 6 74 n xs w) := by
 obtain ⟨c0, hc, hcz0, hcz1, hcz2⟩ := info_parts Tryz.infoClPlan
 obtain ⟨A, c, rfl, hc1, hc2, hl, hcell⟩ := h
 have hn := fun (W : World) (A : Option Addr) (n c n' c' : Nat) => Lib.run_eql_slice_nil (P := prog) W 41 74 A n c n' c' Tryz.underlying41
 have HL := Lib.hid hl
 have H1 := Lib.hid h1
 cases A with
 | none =>
  have hx : xs = [] := by
   rcases xs with _ | ⟨x, xs⟩
   ·rfl
   ·obtain ⟨a, e, _⟩ := hcell (by simp)
    cases e
  subst hx
  have hn0 : n = 0 := by simp at hl; omega
  subst hn0
  clear hcell hl
  go_enter Tryz.func66, Tryz.ntmps66
  go_wp2
  go_ret
  exact ⟨none, 0, rfl, World.ownsRow_nil _ _ _ 6, Ext.refl _⟩
 | some a =>
  have HO := Lib.hid (fv w w.heap.size 74 6 (Nat.le_refl _))
  have HCS := Lib.hid (show ∀ (j : Nat) (u : Value), xs[j]? = some u → (w.alloc (.cells #[] 74)).cell? (a.add j) = some u from fun j u hu => by
   obtain ⟨a', e, hb, hcs⟩ := hcell (by have := (zg.1 hu).1; omega)
   obtain rfl : a = a' := Option.some.inj e
   exact (Below.cell (aO w _) (p := a.add j) (by rw [cZ]; exact hb)).trans (hcs j u hu))
  clear hcell hl h1
  go_enter Tryz.func66, Tryz.ntmps66
  go_wp2_with (at_builtin; go_loud (refine wpList_append_own_at _ rfl (.tmp 5) (.tmp 6) 41 rfl w.heap.size 74 c0 _ 6 48 Tryz.underlying41 hc hcz0 hcz1 hcz2 rfl (by decide) _ 0 [] rfl HO.out a n c xs rfl HL.out HCS.out H1.out ?c3 ?c4 ?c5 ?_))
  case c3 => simp [maxLen]; omega
  case c4 => omega
  case c5 => simp
  intro v' w3 ho3 hg3 _ hat3
  have HE := Lib.hid ((aO w (.cells #[] 74)).trans' (cJ hg3 (by simp) (fun k hk => by simp [Value.ownBlock] at hk; omega)))
  have HO3 := Lib.hid ho3
  obtain ⟨A3, c3, rfl, _, _⟩ := cD ho3
  clear ho3 hg3 hat3
  go_wp2
  go_ret
  exact ⟨_, _, rfl, HO3.out, HE.out⟩
theorem Tryz.infoClStr : (prog.info? 9).map (fun i => (i.zero, i.size, i.bytes)) = some (some (.string ⟨#[]⟩), 1, 16) := by kernel_rfl
theorem J3 (v : Value) (n : Nat) (xs : List Value) (w : World) (h : RdK 1 w v n xs) (h1 : ∀ u ∈ xs, u.oneCell' = true) (h2 : n ≤ 1000000) :
  Calls prog 127 #[v] w (gH 1 9 n xs w) := by
 obtain ⟨c0, hc, hcz0, hcz1, hcz2⟩ := info_parts Tryz.infoClStr
 obtain ⟨A, c, rfl, hc1, hc2, hl, hcell⟩ := h
 have hn := fun (W : World) (A : Option Addr) (n c n' c' : Nat) => Lib.run_eql_slice_nil (P := prog) W 33 9 A n c n' c' Tryz.underlying33
 have HL := Lib.hid hl
 have H1 := Lib.hid h1
 cases A with
 | none =>
  have hx : xs = [] := by
   rcases xs with _ | ⟨x, xs⟩
   ·rfl
   ·obtain ⟨a, e, _⟩ := hcell (by simp)
    cases e
  subst hx
  have hn0 : n = 0 := by simp at hl; omega
  subst hn0
  clear hcell hl
  go_enter Tryz.func127, Tryz.ntmps127
  go_wp2
  go_ret
  exact ⟨none, 0, rfl, World.ownsRow_nil _ _ _ 1, Ext.refl _⟩
 | some a =>
  have HO := Lib.hid (fv w w.heap.size 9 1 (Nat.le_refl _))
  have HCS := Lib.hid (show ∀ (j : Nat) (u : Value), xs[j]? = some u → (w.alloc (.cells #[] 9)).cell? (a.add j) = some u from fun j u hu => by
   obtain ⟨a', e, hb, hcs⟩ := hcell (by have := (zg.1 hu).1; omega)
   obtain rfl : a = a' := Option.some.inj e
   exact (Below.cell (aO w _) (p := a.add j) (by rw [cZ]; exact hb)).trans (hcs j u hu))
  clear hcell hl h1
  go_enter Tryz.func127, Tryz.ntmps127
  go_wp2_with (at_builtin; go_loud (refine wpList_append_own_at _ rfl (.tmp 5) (.tmp 6) 33 rfl w.heap.size 9 c0 _ 1 16 Tryz.underlying33 hc hcz0 hcz1 hcz2 rfl (by decide) _ 0 [] rfl HO.out a n c xs rfl HL.out HCS.out H1.out ?c3 ?c4 ?c5 ?_))
  case c3 => simp [maxLen]; omega
  case c4 => omega
  case c5 => simp
  intro v' w3 ho3 hg3 _ hat3
  have HE := Lib.hid ((aO w (.cells #[] 9)).trans' (cJ hg3 (by simp) (fun k hk => by simp [Value.ownBlock] at hk; omega)))
  have HO3 := Lib.hid ho3
  obtain ⟨A3, c3, rfl, _, _⟩ := cD ho3
  clear ho3 hg3 hat3
  go_wp2
  go_ret
  exact ⟨_, _, rfl, HO3.out, HE.out⟩
theorem Tryz.infoClQueue : (prog.info? 63).map (fun i => (i.zero, i.size, i.bytes)) = some (some (.agg #[.string ⟨#[]⟩, .slice none 0 0, .int .i64 0]), 3, 48) := by kernel_rfl
theorem Fs (v : Value) (n : Nat) (xs : List Value) (w : World) (h : RdK 3 w v n xs) (h1 : ∀ u ∈ xs, u.oneCell' = true) (h2 : n ≤ 1000000) :
  Calls prog 128 #[v] w (gH 3 63 n xs w) := by
 obtain ⟨c0, hc, hcz0, hcz1, hcz2⟩ := info_parts Tryz.infoClQueue
 obtain ⟨A, c, rfl, hc1, hc2, hl, hcell⟩ := h
 have hn := fun (W : World) (A : Option Addr) (n c n' c' : Nat) => Lib.run_eql_slice_nil (P := prog) W 34 63 A n c n' c' Tryz.underlying34
 have HL := Lib.hid hl
 have H1 := Lib.hid h1
 cases A with
 | none =>
  have hx : xs = [] := by
   rcases xs with _ | ⟨x, xs⟩
   ·rfl
   ·obtain ⟨a, e, _⟩ := hcell (by simp)
    cases e
  subst hx
  have hn0 : n = 0 := by simp at hl; omega
  subst hn0
  clear hcell hl
  go_enter Tryz.func128, Tryz.ntmps128
  go_wp2
  go_ret
  exact ⟨none, 0, rfl, World.ownsRow_nil _ _ _ 3, Ext.refl _⟩
 | some a =>
  have HO := Lib.hid (fv w w.heap.size 63 3 (Nat.le_refl _))
  have HCS := Lib.hid (show ∀ (j : Nat) (u : Value), xs[j]? = some u → (w.alloc (.cells #[] 63)).cell? (a.add j) = some u from fun j u hu => by
   obtain ⟨a', e, hb, hcs⟩ := hcell (by have := (zg.1 hu).1; omega)
   obtain rfl : a = a' := Option.some.inj e
   exact (Below.cell (aO w _) (p := a.add j) (by rw [cZ]; exact hb)).trans (hcs j u hu))
  clear hcell hl h1
  go_enter Tryz.func128, Tryz.ntmps128
  go_wp2_with (at_builtin; go_loud (refine wpList_append_own_at _ rfl (.tmp 5) (.tmp 6) 34 rfl w.heap.size 63 c0 _ 3 48 Tryz.underlying34 hc hcz0 hcz1 hcz2 rfl (by decide) _ 0 [] rfl HO.out a n c xs rfl HL.out HCS.out H1.out ?c3 ?c4 ?c5 ?_))
  case c3 => simp [maxLen]; omega
  case c4 => omega
  case c5 => simp
  intro v' w3 ho3 hg3 _ hat3
  have HE := Lib.hid ((aO w (.cells #[] 63)).trans' (cJ hg3 (by simp) (fun k hk => by simp [Value.ownBlock] at hk; omega)))
  have HO3 := Lib.hid ho3
  obtain ⟨A3, c3, rfl, _, _⟩ := cD ho3
  clear ho3 hg3 hat3
  go_wp2
  go_ret
  exact ⟨_, _, rfl, HO3.out, HE.out⟩
theorem Tryz.infoClCap : (prog.info? 98).map (fun i => (i.zero, i.size, i.bytes)) = some (some (.agg #[.int .i64 0, .int .i64 0]), 2, 16) := by kernel_rfl
theorem J5 (v : Value) (n : Nat) (xs : List Value) (w : World) (h : RdK 2 w v n xs) (h1 : ∀ u ∈ xs, u.oneCell' = true) (h2 : n ≤ 1000000) :
  Calls prog 129 #[v] w (gH 2 98 n xs w) := by
 obtain ⟨c0, hc, hcz0, hcz1, hcz2⟩ := info_parts Tryz.infoClCap
 obtain ⟨A, c, rfl, hc1, hc2, hl, hcell⟩ := h
 have hn := fun (W : World) (A : Option Addr) (n c n' c' : Nat) => Lib.run_eql_slice_nil (P := prog) W 61 98 A n c n' c' Tryz.underlying61
 have HL := Lib.hid hl
 have H1 := Lib.hid h1
 cases A with
 | none =>
  have hx : xs = [] := by
   rcases xs with _ | ⟨x, xs⟩
   ·rfl
   ·obtain ⟨a, e, _⟩ := hcell (by simp)
    cases e
  subst hx
  have hn0 : n = 0 := by simp at hl; omega
  subst hn0
  clear hcell hl
  go_enter Tryz.func129, Tryz.ntmps129
  go_wp2
  go_ret
  exact ⟨none, 0, rfl, World.ownsRow_nil _ _ _ 2, Ext.refl _⟩
 | some a =>
  have HO := Lib.hid (fv w w.heap.size 98 2 (Nat.le_refl _))
  have HCS := Lib.hid (show ∀ (j : Nat) (u : Value), xs[j]? = some u → (w.alloc (.cells #[] 98)).cell? (a.add j) = some u from fun j u hu => by
   obtain ⟨a', e, hb, hcs⟩ := hcell (by have := (zg.1 hu).1; omega)
   obtain rfl : a = a' := Option.some.inj e
   exact (Below.cell (aO w _) (p := a.add j) (by rw [cZ]; exact hb)).trans (hcs j u hu))
  clear hcell hl h1
  go_enter Tryz.func129, Tryz.ntmps129
  go_wp2_with (at_builtin; go_loud (refine wpList_append_own_at _ rfl (.tmp 5) (.tmp 6) 61 rfl w.heap.size 98 c0 _ 2 16 Tryz.underlying61 hc hcz0 hcz1 hcz2 rfl (by decide) _ 0 [] rfl HO.out a n c xs rfl HL.out HCS.out H1.out ?c3 ?c4 ?c5 ?_))
  case c3 => simp [maxLen]; omega
  case c4 => omega
  case c5 => simp
  intro v' w3 ho3 hg3 _ hat3
  have HE := Lib.hid ((aO w (.cells #[] 98)).trans' (cJ hg3 (by simp) (fun k hk => by simp [Value.ownBlock] at hk; omega)))
  have HO3 := Lib.hid ho3
  obtain ⟨A3, c3, rfl, _, _⟩ := cD ho3
  clear ho3 hg3 hat3
  go_wp2
  go_ret
  exact ⟨_, _, rfl, HO3.out, HE.out⟩
theorem Tryz.infoClAsk : (prog.info? 123).map (fun i => (i.zero, i.size, i.bytes)) = some (some (.agg #[.int .i64 0, .int .i64 0, .int .i64 0, .int .i64 0, .int .i64 0, .int .i64 0, .int .i64 0, .int .i64 0]), 8, 64) := by kernel_rfl
theorem J6 (v : Value) (n : Nat) (xs : List Value) (w : World) (h : RdK 8 w v n xs) (h1 : ∀ u ∈ xs, u.oneCell' = true) (h2 : n ≤ 1000000) :
  Calls prog 74 #[v] w (gH 8 123 n xs w) := by
 obtain ⟨c0, hc, hcz0, hcz1, hcz2⟩ := info_parts Tryz.infoClAsk
 obtain ⟨A, c, rfl, hc1, hc2, hl, hcell⟩ := h
 have hn := fun (W : World) (A : Option Addr) (n c n' c' : Nat) => Lib.run_eql_slice_nil (P := prog) W 28 123 A n c n' c' Tryz.underlying28
 have HL := Lib.hid hl
 have H1 := Lib.hid h1
 cases A with
 | none =>
  have hx : xs = [] := by
   rcases xs with _ | ⟨x, xs⟩
   ·rfl
   ·obtain ⟨a, e, _⟩ := hcell (by simp)
    cases e
  subst hx
  have hn0 : n = 0 := by simp at hl; omega
  subst hn0
  clear hcell hl
  go_enter Tryz.func74, Tryz.ntmps74
  go_wp2
  go_ret
  exact ⟨none, 0, rfl, World.ownsRow_nil _ _ _ 8, Ext.refl _⟩
 | some a =>
  have HO := Lib.hid (fv w w.heap.size 123 8 (Nat.le_refl _))
  have HCS := Lib.hid (show ∀ (j : Nat) (u : Value), xs[j]? = some u → (w.alloc (.cells #[] 123)).cell? (a.add j) = some u from fun j u hu => by
   obtain ⟨a', e, hb, hcs⟩ := hcell (by have := (zg.1 hu).1; omega)
   obtain rfl : a = a' := Option.some.inj e
   exact (Below.cell (aO w _) (p := a.add j) (by rw [cZ]; exact hb)).trans (hcs j u hu))
  clear hcell hl h1
  go_enter Tryz.func74, Tryz.ntmps74
  go_wp2_with (at_builtin; go_loud (refine wpList_append_own_at _ rfl (.tmp 5) (.tmp 6) 28 rfl w.heap.size 123 c0 _ 8 64 Tryz.underlying28 hc hcz0 hcz1 hcz2 rfl (by decide) _ 0 [] rfl HO.out a n c xs rfl HL.out HCS.out H1.out ?c3 ?c4 ?c5 ?_))
  case c3 => simp [maxLen]; omega
  case c4 => omega
  case c5 => simp
  intro v' w3 ho3 hg3 _ hat3
  have HE := Lib.hid ((aO w (.cells #[] 123)).trans' (cJ hg3 (by simp) (fun k hk => by simp [Value.ownBlock] at hk; omega)))
  have HO3 := Lib.hid ho3
  obtain ⟨A3, c3, rfl, _, _⟩ := cD ho3
  clear ho3 hg3 hat3
  go_wp2
  go_ret
  exact ⟨_, _, rfl, HO3.out, HE.out⟩
theorem Tryz.infoClInt : (prog.info? 3).map (fun i => (i.zero, i.size, i.bytes)) = some (some (.int .i64 0), 1, 8) := by kernel_rfl
theorem J4 (v : Value) (n : Nat) (xs : List Value) (w : World) (h : RdK 1 w v n xs) (h1 : ∀ u ∈ xs, u.oneCell' = true) (h2 : n ≤ 1000000) :
  Calls prog 75 #[v] w (gH 1 3 n xs w) := by
 obtain ⟨c0, hc, hcz0, hcz1, hcz2⟩ := info_parts Tryz.infoClInt
 obtain ⟨A, c, rfl, hc1, hc2, hl, hcell⟩ := h
 have hn := fun (W : World) (A : Option Addr) (n c n' c' : Nat) => Lib.run_eql_slice_nil (P := prog) W 22 3 A n c n' c' Tryz.underlying22
 have HL := Lib.hid hl
 have H1 := Lib.hid h1
 cases A with
 | none =>
  have hx : xs = [] := by
   rcases xs with _ | ⟨x, xs⟩
   ·rfl
   ·obtain ⟨a, e, _⟩ := hcell (by simp)
    cases e
  subst hx
  have hn0 : n = 0 := by simp at hl; omega
  subst hn0
  clear hcell hl
  go_enter Tryz.func75, Tryz.ntmps75
  go_wp2
  go_ret
  exact ⟨none, 0, rfl, World.ownsRow_nil _ _ _ 1, Ext.refl _⟩
 | some a =>
  have HO := Lib.hid (fv w w.heap.size 3 1 (Nat.le_refl _))
  have HCS := Lib.hid (show ∀ (j : Nat) (u : Value), xs[j]? = some u → (w.alloc (.cells #[] 3)).cell? (a.add j) = some u from fun j u hu => by
   obtain ⟨a', e, hb, hcs⟩ := hcell (by have := (zg.1 hu).1; omega)
   obtain rfl : a = a' := Option.some.inj e
   exact (Below.cell (aO w _) (p := a.add j) (by rw [cZ]; exact hb)).trans (hcs j u hu))
  clear hcell hl h1
  go_enter Tryz.func75, Tryz.ntmps75
  go_wp2_with (at_builtin; go_loud (refine wpList_append_own_at _ rfl (.tmp 5) (.tmp 6) 22 rfl w.heap.size 3 c0 _ 1 8 Tryz.underlying22 hc hcz0 hcz1 hcz2 rfl (by decide) _ 0 [] rfl HO.out a n c xs rfl HL.out HCS.out H1.out ?c3 ?c4 ?c5 ?_))
  case c3 => simp [maxLen]; omega
  case c4 => omega
  case c5 => simp
  intro v' w3 ho3 hg3 _ hat3
  have HE := Lib.hid ((aO w (.cells #[] 3)).trans' (cJ hg3 (by simp) (fun k hk => by simp [Value.ownBlock] at hk; omega)))
  have HO3 := Lib.hid ho3
  obtain ⟨A3, c3, rfl, _, _⟩ := cD ho3
  clear ho3 hg3 hat3
  go_wp2
  go_ret
  exact ⟨_, _, rfl, HO3.out, HE.out⟩
theorem Tryz.infoClApp : (prog.info? 30).map (fun i => (i.zero, i.size, i.bytes)) = some (some (.agg #[.int .i64 0, .int .i64 0, .string ⟨#[]⟩, .int .i64 0, .int .i64 0, .int .i64 0, .int .i64 0, .slice none 0 0, .int .i64 0, .int .i64 0, .slice none 0 0, .slice none 0 0, .slice none 0 0, .slice none 0 0]), 14, 200) := by kernel_rfl
theorem J7 (v : Value) (n : Nat) (xs : List Value) (w : World) (h : RdK 14 w v n xs) (h1 : ∀ u ∈ xs, u.oneCell' = true) (h2 : n ≤ 1000000) :
  Calls prog 106 #[v] w (gH 14 30 n xs w) := by
 obtain ⟨c0, hc, hcz0, hcz1, hcz2⟩ := info_parts Tryz.infoClApp
 obtain ⟨A, c, rfl, hc1, hc2, hl, hcell⟩ := h
 have hn := fun (W : World) (A : Option Addr) (n c n' c' : Nat) => Lib.run_eql_slice_nil (P := prog) W 38 30 A n c n' c' Tryz.underlying38
 have HL := Lib.hid hl
 have H1 := Lib.hid h1
 cases A with
 | none =>
  have hx : xs = [] := by
   rcases xs with _ | ⟨x, xs⟩
   ·rfl
   ·obtain ⟨a, e, _⟩ := hcell (by simp)
    cases e
  subst hx
  have hn0 : n = 0 := by simp at hl; omega
  subst hn0
  clear hcell hl
  go_enter Tryz.func106, Tryz.ntmps106
  go_wp2
  go_ret
  exact ⟨none, 0, rfl, World.ownsRow_nil _ _ _ 14, Ext.refl _⟩
 | some a =>
  have HO := Lib.hid (fv w w.heap.size 30 14 (Nat.le_refl _))
  have HCS := Lib.hid (show ∀ (j : Nat) (u : Value), xs[j]? = some u → (w.alloc (.cells #[] 30)).cell? (a.add j) = some u from fun j u hu => by
   obtain ⟨a', e, hb, hcs⟩ := hcell (by have := (zg.1 hu).1; omega)
   obtain rfl : a = a' := Option.some.inj e
   exact (Below.cell (aO w _) (p := a.add j) (by rw [cZ]; exact hb)).trans (hcs j u hu))
  clear hcell hl h1
  go_enter Tryz.func106, Tryz.ntmps106
  go_wp2_with (at_builtin; go_loud (refine wpList_append_own_at _ rfl (.tmp 5) (.tmp 6) 38 rfl w.heap.size 30 c0 _ 14 200 Tryz.underlying38 hc hcz0 hcz1 hcz2 rfl (by decide) _ 0 [] rfl HO.out a n c xs rfl HL.out HCS.out H1.out ?c3 ?c4 ?c5 ?_))
  case c3 => simp [maxLen]; omega
  case c4 => omega
  case c5 => simp
  intro v' w3 ho3 hg3 _ hat3
  have HE := Lib.hid ((aO w (.cells #[] 30)).trans' (cJ hg3 (by simp) (fun k hk => by simp [Value.ownBlock] at hk; omega)))
  have HO3 := Lib.hid ho3
  obtain ⟨A3, c3, rfl, _, _⟩ := cD ho3
  clear ho3 hg3 hat3
  go_wp2
  go_ret
  exact ⟨_, _, rfl, HO3.out, HE.out⟩
end Go.Proofs.YtmjkjaahbgikjaaGreat
section
namespace Go.Proofs
open Go.Shelf
def Tryz.laysM316_ren : Go.Shelf.Ren := ⟨fun | 316 => 110 | n => n, fun | 9 => 9 | 3 => 3 | 4 => 4 | 37 => 154 | 0 => 0 | 127 => 180 | 5 => 5 | n => n, fun | n => n⟩
theorem Tryz.laysM316 : Go.Proofs.LaysM.n316 prog Tryz.laysM316_ren := {
 mixed := by kernel_rfl
 f316 := Tryz.func110.trans (congrArg some (by kernel_rfl))
 t0 := Tryz.underlying0
 a0 := Tryz.isAgg0
 z0 := Tryz.sizeOf0
 v0 := Tryz.zeroValue0
 t3 := Tryz.underlying3
 a3 := Tryz.isAgg3
 z3 := Tryz.sizeOf3
 v3 := Tryz.zeroValue3
 t4 := Tryz.underlying4
 a4 := Tryz.isAgg4
 z4 := Tryz.sizeOf4
 v4 := Tryz.zeroValue4
 t9 := Tryz.underlying9
 a9 := Tryz.isAgg9
 z9 := Tryz.sizeOf9
 v9 := Tryz.zeroValue9
 t37 := Tryz.underlying154
 a37 := Tryz.isAgg154
 z37 := Tryz.sizeOf154
 v37 := Tryz.zeroValue154
 t127 := Tryz.underlying180
 a127 := Tryz.isAgg180
 z127 := Tryz.sizeOf180
 v127 := Tryz.zeroValue180
 t5 := Tryz.underlying5
 a5 := Tryz.isAgg5
 z5 := Tryz.sizeOf5
 v5 := Tryz.zeroValue5
 i0 := by kernel_rfl
 i3 := by kernel_rfl
 i4 := by kernel_rfl
 i5 := by kernel_rfl
 i9 := by kernel_rfl
 i37 := by kernel_rfl
 i127 := by kernel_rfl }
open Go.RowKit in
theorem Tryz.stringslite_Clone (s : ByteArray) (w : World) (hlim : s.size ≤ 281474976710656) :
  Calls prog 110 #[.string s] w fun e w' => e = .returned (.string s) ∧ Below w.heap.size w w' := Any.stringslite_Clone Tryz.laysM316 s w hlim
open Go.RowKit Go.Lib in
theorem Tryz.bytealg_LastIndexByteString_nm (s : ByteArray) (c : Int) (hs : s.size < 4611686018427387904) (w : World) :
  Calls prog 185 #[.string s, .int .u8 c] w fun e w' => e = .returned (.int .i64 (Lib.lastIndexByte s c)) ∧ w' = w := Any.bytealg_LastIndexByteString_nm Tryz.lays222 s c hs w
def Tryz.lays148_ren : Go.Shelf.Ren := ⟨fun | 148 => 167 | 222 => 185 | 223 => 186 | 269 => 190 | n => n, fun | 9 => 9 | 3 => 3 | 4 => 4 | 5 => 5 | 146 => 236 | 51 => 235 | 46 => 95 | n => n, fun | n => n⟩
theorem Tryz.lays148 : Go.Proofs.Lays.n148 prog Tryz.lays148_ren := {
 mixed := by kernel_rfl
 f148 := Tryz.func167.trans (congrArg some (by kernel_rfl))
 f222 := Tryz.func185.trans (congrArg some (by kernel_rfl))
 f223 := Tryz.func186.trans (congrArg some (by kernel_rfl))
 f269 := Tryz.func190.trans (congrArg some (by kernel_rfl))
 t3 := Tryz.underlying3
 a3 := Tryz.isAgg3
 z3 := Tryz.sizeOf3
 v3 := Tryz.zeroValue3
 t4 := Tryz.underlying4
 a4 := Tryz.isAgg4
 z4 := Tryz.sizeOf4
 v4 := Tryz.zeroValue4
 t5 := Tryz.underlying5
 a5 := Tryz.isAgg5
 z5 := Tryz.sizeOf5
 v5 := Tryz.zeroValue5
 t9 := Tryz.underlying9
 a9 := Tryz.isAgg9
 z9 := Tryz.sizeOf9
 v9 := Tryz.zeroValue9
 t46 := Tryz.underlying95
 a46 := Tryz.isAgg95
 z46 := Tryz.sizeOf95
 v46 := Tryz.zeroValue95
 t51 := Tryz.underlying235
 a51 := Tryz.isAgg235
 z51 := Tryz.sizeOf235
 v51 := Tryz.zeroValue235
 t146 := Tryz.underlying236
 a146 := Tryz.isAgg236
 z146 := Tryz.sizeOf236
 v146 := Tryz.zeroValue236 }
open Go.RowKit Go.Lib in
theorem Tryz.strings_LastIndex_one (s sub : ByteArray) (h1 : sub.size = 1) (hs : s.size < 4611686018427387904) (w : World) :
  Calls prog 167 #[.string s, .string sub] w fun e w' => e = .returned (.int .i64 (Lib.lastIndexByte s ((sub[0]'(by omega)).toNat : Int))) ∧ w' = w := Any.strings_LastIndex_one Tryz.lays148 s sub h1 hs w
open Go.RowKit Go.Lib in
theorem Tryz.strings_LastIndex_empty (s sub : ByteArray) (h0 : sub.size = 0) (w : World) :
  Calls prog 167 #[.string s, .string sub] w fun e w' => e = .returned (.int .i64 s.size) ∧ w' = w := Any.strings_LastIndex_empty Tryz.lays148 s sub h0 w
open Go.RowKit Go.Lib in
theorem Tryz.strings_LastIndex_longer (s sub : ByteArray) (h2 : 2 ≤ sub.size) (hl : s.size < sub.size) (w : World) :
  Calls prog 167 #[.string s, .string sub] w fun e w' => e = .returned (.int .i64 (-1)) ∧ w' = w := Any.strings_LastIndex_longer Tryz.lays148 s sub h2 hl w
open Go.RowKit Go.Lib in
theorem Tryz.strings_LastIndex_whole (s sub : ByteArray) (h2 : 2 ≤ sub.size) (hl : sub.size = s.size) (w : World) :
  Calls prog 167 #[.string s, .string sub] w fun e w' => e = .returned (.int .i64 (if sub = s then 0 else -1)) ∧ w' = w := Any.strings_LastIndex_whole Tryz.lays148 s sub h2 hl w
open Go.RowKit Go.Lib in
theorem Tryz.slices_Clone_int (b off n c : Nat) (zs : List Int) (w : World) (hz : n ≤ zs.length) (hbig : n * 8 ≤ 140737488355328) (hc : ∀ j, j < zs.length → w.cell? ⟨b, off + j, none⟩ = some (.int .i64 (zs.getD j 0))) :
  Calls prog 75 #[.slice (some ⟨b, off, none⟩) n c] w fun e w' => ∃ v', e = .returned v' ∧ w'.ownsRow w.heap.size 3 1 v' n ((zs.take n).map (Value.int .i64)) ∧ v' ≠ .slice none 0 0 ∧ Below w.heap.size w w' := Any.slices_Clone_int Tryz.laysNm215 b off n c zs w hz hbig hc
open Go.RowKit Go.Lib in
theorem Tryz.slices_Clone_int_nil (n c : Nat) (w : World) :
  Calls prog 75 #[.slice none n c] w fun e w' => e = .returned (.slice none 0 0) ∧ w' = w := Any.slices_Clone_int_nil Tryz.laysNm215 n c w
open Go.RowKit Go.Lib in
theorem Tryz.slices_Clone_string (b off n c : Nat) (zs : List ByteArray) (w : World) (hz : n ≤ zs.length) (hbig : n * 16 ≤ 140737488355328) (hc : ∀ j, j < zs.length → w.cell? ⟨b, off + j, none⟩ = some (.string (zs.getD j ByteArray.empty))) :
  Calls prog 127 #[.slice (some ⟨b, off, none⟩) n c] w fun e w' => ∃ v', e = .returned v' ∧ w'.ownsRow w.heap.size 9 1 v' n ((zs.take n).map (Value.string)) ∧ v' ≠ .slice none 0 0 ∧ Below w.heap.size w w' := Any.slices_Clone_string Tryz.laysNm216 b off n c zs w hz hbig hc
open Go.RowKit Go.Lib in
theorem Tryz.slices_Clone_string_nil (n c : Nat) (w : World) :
  Calls prog 127 #[.slice none n c] w fun e w' => e = .returned (.slice none 0 0) ∧ w' = w := Any.slices_Clone_string_nil Tryz.laysNm216 n c w
open Go.RowKit Go.Lib in
theorem Tryz.slices_Clone_int_zero (a : Addr) (c : Nat) (w : World) :
  Calls prog 75 #[.slice (some a) 0 c] w fun e w' => ∃ v', e = .returned v' ∧ w'.ownsRow w.heap.size 3 1 v' 0 [] ∧ v' ≠ .slice none 0 0 ∧ Below w.heap.size w w' := Any.slices_Clone_int_zero Tryz.laysNm215 a c w
open Go.RowKit Go.Lib in
theorem Tryz.slices_Clone_string_zero (a : Addr) (c : Nat) (w : World) :
  Calls prog 127 #[.slice (some a) 0 c] w fun e w' => ∃ v', e = .returned v' ∧ w'.ownsRow w.heap.size 9 1 v' 0 [] ∧ v' ≠ .slice none 0 0 ∧ Below w.heap.size w w' := Any.slices_Clone_string_zero Tryz.laysNm216 a c w
open Go.RowKit Go.Lib in
theorem Tryz.slices_Clone_f75 (i0 : TypeInfo) (z : Value) (size bytes : Nat) (hi : prog.info? 3 = some i0) (hz0 : i0.zero = some z) (hz1 : i0.size = size) (hz2 : i0.bytes = bytes) (hzs : z.cells.size = size) (hsz : 0 < size) (z23 : ∀ w, (Go.sizeOf 3).run prog w = .ok size w) (b off n c : Nat) (news : List Value) (w : World) (hl : news.length = n * size) (hn : n ≤ maxLen) (hbig : n * bytes ≤ 140737488355328) (hc : ∀ j u, news[j]? = some u → w.cell? ⟨b, off + j, none⟩ = some u) (h1 : ∀ u ∈ news, u.oneCell' = true) :
  Calls prog 75 #[.slice (some ⟨b, off, none⟩) n c] w fun e w' => ∃ v', e = .returned v' ∧ w'.ownsRow w.heap.size 3 size v' n news ∧ v' ≠ .slice none 0 0 ∧ Below w.heap.size w w' := AnyE.slices_Clone Tryz.laysSlE041_f75 i0 z size bytes hi hz0 hz1 hz2 hzs hsz z23 b off n c news w hl hn hbig hc h1
open Go.RowKit Go.Lib in
theorem Tryz.slices_Clone_f127 (i0 : TypeInfo) (z : Value) (size bytes : Nat) (hi : prog.info? 9 = some i0) (hz0 : i0.zero = some z) (hz1 : i0.size = size) (hz2 : i0.bytes = bytes) (hzs : z.cells.size = size) (hsz : 0 < size) (z23 : ∀ w, (Go.sizeOf 9).run prog w = .ok size w) (b off n c : Nat) (news : List Value) (w : World) (hl : news.length = n * size) (hn : n ≤ maxLen) (hbig : n * bytes ≤ 140737488355328) (hc : ∀ j u, news[j]? = some u → w.cell? ⟨b, off + j, none⟩ = some u) (h1 : ∀ u ∈ news, u.oneCell' = true) :
  Calls prog 127 #[.slice (some ⟨b, off, none⟩) n c] w fun e w' => ∃ v', e = .returned v' ∧ w'.ownsRow w.heap.size 9 size v' n news ∧ v' ≠ .slice none 0 0 ∧ Below w.heap.size w w' := AnyE.slices_Clone Tryz.laysSlE041_f127 i0 z size bytes hi hz0 hz1 hz2 hzs hsz z23 b off n c news w hl hn hbig hc h1
open Go.RowKit Go.Lib in
theorem Tryz.slices_Clone_nil_f75 (n c : Nat) (w : World) :
  Calls prog 75 #[.slice none n c] w fun e w' => e = .returned (.slice none 0 0) ∧ w' = w := AnyE.slices_Clone_nil Tryz.laysSlE041_f75 n c w
open Go.RowKit Go.Lib in
theorem Tryz.slices_Clone_nil_f127 (n c : Nat) (w : World) :
  Calls prog 127 #[.slice none n c] w fun e w' => e = .returned (.slice none 0 0) ∧ w' = w := AnyE.slices_Clone_nil Tryz.laysSlE041_f127 n c w
end Go.Proofs
end
namespace Go.Proofs.YtmjkjaahbgikjaaGreat
open Go.RowKit
open IntKind (i64)
open Go.Proofs.Tryz (prog)
theorem Jg (S : ByteArray) (w : World) (hs : S.size ≤ 1000000000000) : Calls prog 73 #[.string S] w fun e w' => e = .returned (.string S) ∧ Ext w w' := by
 have hcon := fun W => Tryz.stringslite_Clone S W (by omega)
 go_enter Tryz.func73, Tryz.ntmps73
 go_wp2_with (go_at_call 110; refine (hcon _).mono ?_; rintro e w' ⟨rfl, hx⟩)
 go_ret
 exact ⟨rfl, hx⟩
def Ft {α : Type} (xs : List α) : Option (List α) := if xs.length ≤ 1000000 then some xs else none
def fw (ty : Ty) (e k : Nat) (x : cp [.lf (.sl ty)]) : Option (a8 [.io [.no], .own e k ty]) := (Ft (show List ty.den from x.1)).bind fun z => some (((), ()), z)
theorem iw {P : Program} {f : FuncId} (ty : Ty) {e k : Nat} (hk : tyN ty = k) (hk0 : 0 < k) (hcall : dN P f = true)
  (hC : ∀ (v : Value) (n : Nat) (us : List Value) (w : World), RdK k w v n us → (∀ u ∈ us, u.oneCell' = true) → n ≤ 1000000 → Calls P f #[v] w (gH k e n us w)) :
  bK P f [.lf (.sl ty)] [.io [.no], .own e k ty] (fw ty e k) := by
 refine Yt (F := Ft) hk hk0 hcall fun xs zs w G v hF hG hd => ?_
 unfold Ft at hF
 split at hF
 ·rename_i hle
  injection hF with hF
  subst hF
  cases hd with
  | sl A n c k0 _ us hn hc hm hkk hA hA0 hcell hrep =>
   have hlen : ∀ y ∈ xs.map (bR ty), y.length = k := fun y hy => by
    obtain ⟨z, _, rfl⟩ := List.mem_map.1 hy
    rw [px, hk]
   have hfl := cK k (xs.map (bR ty)) hlen
   rw [List.length_map] at hn hfl
   have hul : ((List.range (xs.map (bR ty)).flatten.length).map us).length = xs.length * k := by rw [List.length_map, List.length_range, hfl]
   have hget : ∀ (j : Nat) u, ((List.range (xs.map (bR ty)).flatten.length).map us)[j]? = some u → j < (xs.map (bR ty)).flatten.length ∧ u = us j := fun j u hu => by
    rw [List.getElem?_map, zm] at hu
    obtain ⟨i, hi, rfl⟩ := hu
    obtain ⟨rfl, hlt⟩ := nA hi
    exact ⟨hlt, rfl⟩
   refine (hC _ n ((List.range (xs.map (bR ty)).flatten.length).map us) w ⟨A, c, rfl, hc, hm, by rw [hul, hn], fun h0 => ?_⟩ (fun u hu => ?_) (by omega)).mono ?_
   ·obtain ⟨a, ha, hFa⟩ := hA (by rw [hn]; rcases Nat.eq_zero_or_pos xs.length with e | e
                                  ·rw [hul, e, Nat.zero_mul] at h0; omega
                                  ·exact e)
    refine ⟨a, ha, hG _ hFa, fun j u hu => ?_⟩
    obtain ⟨hlt, rfl⟩ := hget j u hu
    exact hcell a j _ ha (zq hlt)
   ·obtain ⟨j, hj⟩ := List.getElem?_of_mem hu
    obtain ⟨hlt, rfl⟩ := hget j u hj
    exact (hrep j _ (zq hlt)).one
   ·rintro en w' ⟨A', c', rfl, ho, hx⟩
    refine ⟨_, _, rfl, by rw [← hn]; exact ho, hx, hul, fun j u d hu hd => ?_⟩
    obtain ⟨hlt, rfl⟩ := hget j u hu
    exact hrep j d hd
 ·cases hF
noncomputable def UO : Ent := ⟨[.lf (.sl (.st 7))], [.io [.no], .own 72 8 (.st 7)], fw (.st 7) 72 8⟩
theorem UN : bK prog 62 [.lf (.sl (.st 7))] [.io [.no], .own 72 8 (.st 7)] (fw (.st 7) 72 8) := iw (.st 7) (by kernel_rfl) (by decide) (by kernel_rfl) (fun v n us w h1 h2 h3 => GY v n us w h1 h2 h3)
noncomputable def UQ : Ent := ⟨[.lf (.sl (.st 6))], [.io [.no], .own 91 9 (.st 6)], fw (.st 6) 91 9⟩
theorem UP : bK prog 64 [.lf (.sl (.st 6))] [.io [.no], .own 91 9 (.st 6)] (fw (.st 6) 91 9) := iw (.st 6) (by kernel_rfl) (by decide) (by kernel_rfl) (fun v n us w h1 h2 h3 => GZ v n us w h1 h2 h3)
noncomputable def UK : Ent := ⟨[.lf (.sl (.st 11))], [.io [.no], .own 93 3 (.st 11)], fw (.st 11) 93 3⟩
theorem UJ : bK prog 65 [.lf (.sl (.st 11))] [.io [.no], .own 93 3 (.st 11)] (fw (.st 11) 93 3) := iw (.st 11) (by kernel_rfl) (by decide) (by kernel_rfl) (fun v n us w h1 h2 h3 => GW v n us w h1 h2 h3)
noncomputable def UM : Ent := ⟨[.lf (.sl (.st 8))], [.io [.no], .own 74 6 (.st 8)], fw (.st 8) 74 6⟩
theorem UL : bK prog 66 [.lf (.sl (.st 8))] [.io [.no], .own 74 6 (.st 8)] (fw (.st 8) 74 6) := iw (.st 8) (by kernel_rfl) (by decide) (by kernel_rfl) (fun v n us w h1 h2 h3 => GX v n us w h1 h2 h3)
noncomputable def Xj : Ent := ⟨[.lf (.sl (.str))], [.io [.no], .own 9 1 (.str)], fw (.str) 9 1⟩
theorem Xi : bK prog 127 [.lf (.sl (.str))] [.io [.no], .own 9 1 (.str)] (fw (.str) 9 1) := iw (.str) (by kernel_rfl) (by decide) (by kernel_rfl) (fun v n us w h1 h2 h3 => J3 v n us w h1 h2 h3)
noncomputable def QY : Ent := ⟨[.lf (.sl (.st 4))], [.io [.no], .own 63 3 (.st 4)], fw (.st 4) 63 3⟩
theorem QX : bK prog 128 [.lf (.sl (.st 4))] [.io [.no], .own 63 3 (.st 4)] (fw (.st 4) 63 3) := iw (.st 4) (by kernel_rfl) (by decide) (by kernel_rfl) (fun v n us w h1 h2 h3 => Fs v n us w h1 h2 h3)
noncomputable def Xn : Ent := ⟨[.lf (.sl (.st 3))], [.io [.no], .own 98 2 (.st 3)], fw (.st 3) 98 2⟩
theorem Xm : bK prog 129 [.lf (.sl (.st 3))] [.io [.no], .own 98 2 (.st 3)] (fw (.st 3) 98 2) := iw (.st 3) (by kernel_rfl) (by decide) (by kernel_rfl) (fun v n us w h1 h2 h3 => J5 v n us w h1 h2 h3)
noncomputable def Xp : Ent := ⟨[.lf (.sl (.st 1))], [.io [.no], .own 123 8 (.st 1)], fw (.st 1) 123 8⟩
theorem Xo : bK prog 74 [.lf (.sl (.st 1))] [.io [.no], .own 123 8 (.st 1)] (fw (.st 1) 123 8) := iw (.st 1) (by kernel_rfl) (by decide) (by kernel_rfl) (fun v n us w h1 h2 h3 => J6 v n us w h1 h2 h3)
noncomputable def Xl : Ent := ⟨[.lf (.sl (.int .i64))], [.io [.no], .own 3 1 (.int .i64)], fw (.int .i64) 3 1⟩
theorem Xk : bK prog 75 [.lf (.sl (.int .i64))] [.io [.no], .own 3 1 (.int .i64)] (fw (.int .i64) 3 1) := iw (.int .i64) (by kernel_rfl) (by decide) (by kernel_rfl) (fun v n us w h1 h2 h3 => J4 v n us w h1 h2 h3)
noncomputable def Xr : Ent := ⟨[.lf (.sl (.st 2))], [.io [.no], .own 30 14 (.st 2)], fw (.st 2) 30 14⟩
theorem Xq : bK prog 106 [.lf (.sl (.st 2))] [.io [.no], .own 30 14 (.st 2)] (fw (.st 2) 30 14) := iw (.st 2) (by kernel_rfl) (by decide) (by kernel_rfl) (fun v n us w h1 h2 h3 => J7 v n us w h1 h2 h3)
noncomputable def sr : Ent := ⟨[.lf .str], [.lf .str], fun x => if (show ByteArray from x.1).size ≤ 1000000000 then some x.1 else none⟩
theorem sq : bK prog 73 [.lf .str] [.lf .str] (fun x => if (show ByteArray from x.1).size ≤ 1000000000 then some x.1 else none) := Ys (by kernel_rfl) fun x z w hF => by
 dsimp only at hF
 split at hF
 ·rename_i hle
  injection hF with hF
  subst hF
  exact Jg x w (Nat.le_trans hle (by decide))
 ·cases hF
noncomputable def rb (x : cp [.ag 2]) : Option (a8 [.ag 2]) := fS ⟨prog, [(73, sr), (74, Xp), (75, Xl)], 28, [.ag 2], [.cell 2 30], [], [2], []⟩ ((Tryz.f36).body.getD .skip) (.n) [.ag 2] x
noncomputable def nu : Ent := ⟨[.ag 2], [.ag 2], rb⟩
theorem nr : bK prog 36 [.ag 2] [.ag 2] rb := cd (n := 28) (.cons (sq) (.cons (Xo) (.cons (Xk) (.nil)))) Tryz.mixed Tryz.func36 rfl (by kernel_rfl) rfl rfl rfl (fun _ => rfl)
noncomputable def og (x : cp [.ag 4]) : Option (a8 [.ag 4]) := fS ⟨prog, [(73, sr), (129, Xn)], 12, [.ag 4], [.cell 2 63], [], [2], []⟩ ((Tryz.f105).body.getD .skip) (.n) [.ag 4] x
noncomputable def CV : Ent := ⟨[.ag 4], [.ag 4], og⟩
theorem CU : bK prog 105 [.ag 4] [.ag 4] og := cd (n := 12) (.cons (sq) (.cons (Xm) (.nil))) Tryz.mixed Tryz.func105 rfl (by kernel_rfl) rfl rfl rfl (fun _ => rfl)
noncomputable def oh (x : cp [.lf (.sl .str), .fn 73 [] []]) : Option (a8 [.lf (.sl .str)]) := fS ⟨prog, [(127, Xj), (73, sr)], 24, [.lf (.sl .str)], [.tmp 4], [], [], []⟩ ((Tryz.f103).body.getD .skip) (.s (.n) (.s (.n) (.s (.s (.n) (.s (.lp [.row 0 500512 9 1 (.str), .row 9 500512 9 1 (.str), .leaf 11 (.int .i64)] 0 false (.n)) .n)) (.n)))) [.lf (.sl .str), .fn 73 [] []] x
noncomputable def CX : Ent := ⟨[.lf (.sl .str), .fn 73 [] []], [.lf (.sl .str)], oh⟩
theorem CW : bK prog 103 [.lf (.sl .str), .fn 73 [] []] [.lf (.sl .str)] oh := cd (n := 24) (.cons (Xi) (.cons (sq) (.nil))) Tryz.mixed Tryz.func103 rfl (by kernel_rfl) rfl rfl rfl (fun _ => rfl)
noncomputable def ol (x : cp [.lf (.sl (.st 4)), .fn 105 [] []]) : Option (a8 [.lf (.sl (.st 4))]) := fS ⟨prog, [(128, QY), (105, CV)], 24, [.lf (.sl (.st 4))], [.tmp 4], [], [], []⟩ ((Tryz.f104).body.getD .skip) (.s (.n) (.s (.n) (.s (.s (.n) (.s (.lp [.row 0 500512 63 3 (.st 4), .row 9 500512 63 3 (.st 4), .leaf 11 (.int .i64)] 0 false (.n)) .n)) (.n)))) [.lf (.sl (.st 4)), .fn 105 [] []] x
noncomputable def CZ : Ent := ⟨[.lf (.sl (.st 4)), .fn 105 [] []], [.lf (.sl (.st 4))], ol⟩
theorem CY : bK prog 104 [.lf (.sl (.st 4)), .fn 105 [] []] [.lf (.sl (.st 4))] ol := cd (n := 24) (.cons (QX) (.cons (CU) (.nil))) Tryz.mixed Tryz.func104 rfl (by kernel_rfl) rfl rfl rfl (fun _ => rfl)
noncomputable def om (x : cp [.lf (.sl (.st 2)), .fn 36 [] []]) : Option (a8 [.io [.no, .no], .own 30 14 (.st 2)]) := Q8 ⟨prog, [(106, Xr), (36, nu)], 24, [.io [.no, .no], .own 30 14 (.st 2)], [.tmp 4], [], [], []⟩ ((Tryz.f63).body.getD .skip) (.s (.n) (.s (.n) (.s (.s (.n) (.s (.lp [.row 0 500512 30 14 (.st 2), .row 9 500512 30 14 (.st 2), .leaf 11 (.int .i64)] 0 false (.n)) .n)) (.n)))) [.lf (.sl (.st 2)), .fn 36 [] []] x
noncomputable def C1 : Ent := ⟨[.lf (.sl (.st 2)), .fn 36 [] []], [.io [.no, .no], .own 30 14 (.st 2)], om⟩
theorem C0 : bK prog 63 [.lf (.sl (.st 2)), .fn 36 [] []] [.io [.no, .no], .own 30 14 (.st 2)] om := R5 (n := 24) (.cons (Xq) (.cons (nr) (.nil))) Tryz.mixed Tryz.func63 rfl (by kernel_rfl) rfl rfl (by kernel_rfl) (fun _ _ _ => (by first | trivial | exact ⟨trivial, trivial⟩)) (fun _ => rfl)
noncomputable def qc (x : cp [.ag 5]) : Option (a8 [.ag 5]) := fS ⟨prog, [(103, CX), (104, CZ), (73, sr)], 10, [.ag 5], [.cell 2 36], [], [2], []⟩ ((Tryz.f61).body.getD .skip) (.n) [.ag 5] x
noncomputable def Gy : Ent := ⟨[.ag 5], [.ag 5], qc⟩
theorem Gx : bK prog 61 [.ag 5] [.ag 5] qc := cd (n := 10) (.cons (CW) (.cons (CY) (.cons (sq) (.nil)))) Tryz.mixed Tryz.func61 rfl (by kernel_rfl) rfl rfl rfl (fun _ => rfl)
noncomputable def oq (x : cp [.ag 12]) : Option (a8 [.io [.no], .agr 12 [(2, 72, 8, .st 7), (3, 30, 14, .st 2), (4, 91, 9, .st 6), (5, 93, 3, .st 11), (6, 74, 6, .st 8)]]) := Q8 ⟨prog, [(61, Gy), (62, UO), (63, C1), (64, UQ), (65, UK), (66, UM)], 28, [.io [.no], .agr 12 [(2, 72, 8, .st 7), (3, 30, 14, .st 2), (4, 91, 9, .st 6), (5, 93, 3, .st 11), (6, 74, 6, .st 8)]], [.cell 2 43], [], [2], []⟩ ((Tryz.f31).body.getD .skip) (.n) [.ag 12] x
noncomputable def tH : Ent := ⟨[.ag 12], [.io [.no], .agr 12 [(2, 72, 8, .st 7), (3, 30, 14, .st 2), (4, 91, 9, .st 6), (5, 93, 3, .st 11), (6, 74, 6, .st 8)]], oq⟩
theorem tG : bK prog 31 [.ag 12] [.io [.no], .agr 12 [(2, 72, 8, .st 7), (3, 30, 14, .st 2), (4, 91, 9, .st 6), (5, 93, 3, .st 11), (6, 74, 6, .st 8)]] oq := R5 (n := 28) (.cons (Gx) (.cons (UN) (.cons (C0) (.cons (UP) (.cons (UJ) (.cons (UL) (.nil))))))) Tryz.mixed Tryz.func31 rfl (by kernel_rfl) rfl rfl (by kernel_rfl) (fun _ _ _ => (by first | trivial | exact ⟨trivial, trivial⟩)) (fun _ => rfl)
theorem Wk {P : Program} {f : FuncId} {F : cp [.lf .str, .lf .str] → Option (a8 [.lf (.int .i64)])} (hcall : dN P f = true)
  (H : ∀ (x y : ByteArray) (z : Int) (w : World), F (x, (y, ())) = some z → Calls P f #[.string x, .string y] w fun en w' => en = .returned (.int .i64 z) ∧ w' = w) : bK P f [.lf .str, .lf .str] [.lf (.int .i64)] F := by
 rintro ⟨x, y, ⟨⟩⟩ z hF
 refine ⟨fun _ => ⟨hcall, fun w G vs hG hr => ?_⟩, fun h => (by cases h)⟩
 have hvl : vs.toList.length = 2 := hr.len
 obtain ⟨v, u, hv⟩ : ∃ v u, vs = #[v, u] := by
  match hv : vs.toList, hvl with
  | [v, u], _ => exact ⟨v, u, by apply Array.ext'; simpa using hv⟩
 subst hv
 obtain ⟨rfl, _⟩ := aK.vv (hr.rep 0 v _ rfl rfl)
 obtain ⟨rfl, _⟩ := aK.vv (hr.rep 1 u _ rfl rfl)
 refine (H x y z w hF).mono ?_
 rintro en w' ⟨rfl, rfl⟩
 exact ⟨_, G, rfl, Ext.refl _, fun _ h => h, hG, fun _ h => .inl h, .d _ _ (.v _ rfl)⟩
def VK (s sub : ByteArray) : Option Int := if h : sub.size = 1 ∧ s.size ≤ 1000000000 then some (Lib.lastIndexByte s (((sub[0]'(by omega)).toNat : Nat) : Int)) else none
noncomputable def QW : Ent := ⟨[.lf .str, .lf .str], [.lf (.int .i64)], fun x => VK x.1 x.2.1⟩
theorem QV : bK prog 167 [.lf .str, .lf .str] [.lf (.int .i64)] (fun x => VK x.1 x.2.1) := Wk (by kernel_rfl) fun x y z w hF => by
 dsimp only at hF
 unfold VK at hF
 split at hF
 ·rename_i h
  injection hF with hF
  subst hF
  exact Tryz.strings_LastIndex_one x y h.1 (Nat.lt_of_le_of_lt h.2 (by decide)) w
 ·cases hF
noncomputable def vi (x : cp [.lf (.str)]) : Option (a8 [.lf (.str)]) := fS ⟨prog, [(167, QW)], 8, [.lf (.str)], [.tmp 2], [], [], []⟩ ((Tryz.f151).body.getD .skip) (.n) [.lf (.str)] x
noncomputable def Gw : Ent := ⟨[.lf (.str)], [.lf (.str)], vi⟩
theorem Gv : bK prog 151 [.lf (.str)] [.lf (.str)] vi := cd (n := 8) (.cons (QV) (.nil)) Tryz.mixed Tryz.func151 rfl (by kernel_rfl) rfl rfl rfl (fun _ => rfl)
noncomputable def vg (x : cp [.ag 4, .lf (.str)]) : Option (a8 [.lf (.bool)]) := fS ⟨prog, [(151, Gw)], 14, [.lf (.bool)], [.tmp 4], [], [], []⟩ ((Tryz.f132).body.getD .skip) (.n) [.ag 4, .lf (.str)] x
noncomputable def Gq : Ent := ⟨[.ag 4, .lf (.str)], [.lf (.bool)], vg⟩
theorem Gp : bK prog 132 [.ag 4, .lf (.str)] [.lf (.bool)] vg := cd (n := 14) (.cons (Gv) (.nil)) Tryz.mixed Tryz.func132 rfl (by kernel_rfl) rfl rfl rfl (fun _ => rfl)
noncomputable def wO (x : cp [.ag 5, .lf (.str)]) : Option (a8 [.lf (.sl (.str))]) := fS ⟨prog, [(132, Gq), (73, sr)], 25, [.lf (.sl (.str))], [.tmp 4], [], [], []⟩ ((Tryz.f109).body.getD .skip) (.s (.n) (.s (.s (.n) (.s (.lp [.row 4 4 9 1 (.str), .leaf 10 (.int .i64)] 0 false (.n)) .n)) (.n))) [.ag 5, .lf (.str)] x
noncomputable def Hh : Ent := ⟨[.ag 5, .lf (.str)], [.lf (.sl (.str))], wO⟩
theorem Hg : bK prog 109 [.ag 5, .lf (.str)] [.lf (.sl (.str))] wO := cd (n := 25) (.cons (Gp) (.cons (sq) (.nil))) Tryz.mixed Tryz.func109 rfl (by kernel_rfl) rfl rfl rfl (fun _ => rfl)
noncomputable def tF (x : cp [.ag 4, .pl .str]) : Option (a8 [.lf (.bool)]) := fS ⟨prog, [], 8, [.lf (.bool)], [.tmp 3], [], [], []⟩ ((Tryz.f131).body.getD .skip) (.n) [.ag 4, .pl .str] x
noncomputable def CS : Ent := ⟨[.ag 4, .pl .str], [.lf (.bool)], tF⟩
theorem CR : bK prog 131 [.ag 4, .pl .str] [.lf (.bool)] tF := cd (n := 8) (.nil) Tryz.mixed Tryz.func131 rfl (by kernel_rfl) rfl rfl rfl (fun _ => rfl)
noncomputable def NN (x : cp [.lf (.sl (.st 4)), .fn 131 [] [.pl .str]]) : Option (a8 [.lf (.int .i64)]) := fS ⟨prog, [(131, CS)], 19, [.lf (.int .i64)], [.tmp 4], [], [], []⟩ ((Tryz.f130).body.getD .skip) (.s (.n) (.s (.s (.n) (.s (.lp [.leaf 4 (.int .i64), .leaf 8 (.int .i64)] 0 true (.n)) .n)) (.n))) [.lf (.sl (.st 4)), .fn 131 [] [.pl .str]] x
noncomputable def WX : Ent := ⟨[.lf (.sl (.st 4)), .fn 131 [] [.pl .str]], [.lf (.int .i64)], NN⟩
theorem WW : bK prog 130 [.lf (.sl (.st 4)), .fn 131 [] [.pl .str]] [.lf (.int .i64)] NN := cd (n := 19) (.cons (CR) (.nil)) Tryz.mixed Tryz.func130 rfl (by kernel_rfl) rfl rfl rfl (fun _ => rfl)
noncomputable def vh (x : cp [.ag 5, .lf (.str)]) : Option (a8 [.lf (.int .i64)]) := fS ⟨prog, [(130, WX)], 9, [.lf (.int .i64)], [.tmp 4], [], [], [(0, [3])]⟩ ((Tryz.f108).body.getD .skip) (.n) [.ag 5, .lf (.str)] x
noncomputable def Gu : Ent := ⟨[.ag 5, .lf (.str)], [.lf (.int .i64)], vh⟩
theorem Gs : bK prog 108 [.ag 5, .lf (.str)] [.lf (.int .i64)] vh := cd (n := 9) (.cons (WW) (.nil)) Tryz.mixed Tryz.func108 rfl (by kernel_rfl) rfl rfl rfl (fun _ => rfl)
noncomputable def wN (x : cp [.ag 5, .lf (.str)]) : Option (a8 [.lf (.bool)]) := fS ⟨prog, [(108, Gu), (109, Hh)], 16, [.lf (.bool)], [.tmp 4], [], [], []⟩ ((Tryz.f69).body.getD .skip) (.n) [.ag 5, .lf (.str)] x
noncomputable def Hf : Ent := ⟨[.ag 5, .lf (.str)], [.lf (.bool)], wN⟩
theorem He : bK prog 69 [.ag 5, .lf (.str)] [.lf (.bool)] wN := cd (n := 16) (.cons (Gs) (.cons (Hg) (.nil))) Tryz.mixed Tryz.func69 rfl (by kernel_rfl) rfl rfl rfl (fun _ => rfl)
noncomputable def rf (x : cp [.ag 2]) : Option (a8 [.lf (.bool)]) := fS ⟨prog, [], 11, [.lf (.bool)], [.tmp 2], [], [], []⟩ ((Tryz.f18).body.getD .skip) (.n) [.ag 2] x
noncomputable def rg : Ent := ⟨[.ag 2], [.lf (.bool)], rf⟩
theorem rc : bK prog 18 [.ag 2] [.lf (.bool)] rf := cd (n := 11) (.nil) Tryz.mixed Tryz.func18 rfl (by kernel_rfl) rfl rfl rfl (fun _ => rfl)
noncomputable def tI (x : cp [.lf (.int .i64), .lf (.int .i64), .lf (.int .i64)]) : Option (a8 [.lf (.bool)]) := fS ⟨prog, [], 15, [.lf (.bool)], [.tmp 6], [], [], []⟩ ((Tryz.f107).body.getD .skip) (.n) [.lf (.int .i64), .lf (.int .i64), .lf (.int .i64)] x
noncomputable def C3 : Ent := ⟨[.lf (.int .i64), .lf (.int .i64), .lf (.int .i64)], [.lf (.bool)], tI⟩
theorem C2 : bK prog 107 [.lf (.int .i64), .lf (.int .i64), .lf (.int .i64)] [.lf (.bool)] tI := cd (n := 15) (.nil) Tryz.mixed Tryz.func107 rfl (by kernel_rfl) rfl rfl rfl (fun _ => rfl)
noncomputable def so (x : cp [.ag 2]) : Option (a8 [.lf (.bool)]) := fS ⟨prog, [(107, C3)], 28, [.lf (.bool)], [.tmp 2], [], [], []⟩ ((Tryz.f67).body.getD .skip) (.n) [.ag 2] x
noncomputable def BG : Ent := ⟨[.ag 2], [.lf (.bool)], so⟩
theorem BF : bK prog 67 [.ag 2] [.lf (.bool)] so := cd (n := 28) (.cons (C2) (.nil)) Tryz.mixed Tryz.func67 rfl (by kernel_rfl) rfl rfl rfl (fun _ => rfl)
noncomputable def qg (x : cp [.lf (.sl (.st 2))]) : Option (a8 [.lf (.int .i64)]) := fS ⟨prog, [(18, rg)], 17, [.lf (.int .i64)], [.tmp 2], [], [], []⟩ ((Tryz.f68).body.getD .skip) (.s (.n) (.s (.s (.n) (.s (.lp [.leaf 2 (.int .i64), .leaf 7 (.int .i64)] 0 false (.n)) .n)) (.n))) [.lf (.sl (.st 2))] x
noncomputable def xT : Ent := ⟨[.lf (.sl (.st 2))], [.lf (.int .i64)], qg⟩
theorem xS : bK prog 68 [.lf (.sl (.st 2))] [.lf (.int .i64)] qg := cd (n := 17) (.cons (rc) (.nil)) Tryz.mixed Tryz.func68 rfl (by kernel_rfl) rfl rfl rfl (fun _ => rfl)
noncomputable def tM (x : cp [.ag 2, .pl (.int .i64)]) : Option (a8 [.lf (.bool)]) := fS ⟨prog, [], 8, [.lf (.bool)], [.tmp 3], [], [], []⟩ ((Tryz.f77).body.getD .skip) (.n) [.ag 2, .pl (.int .i64)] x
noncomputable def C7 : Ent := ⟨[.ag 2, .pl (.int .i64)], [.lf (.bool)], tM⟩
theorem C6 : bK prog 77 [.ag 2, .pl (.int .i64)] [.lf (.bool)] tM := cd (n := 8) (.nil) Tryz.mixed Tryz.func77 rfl (by kernel_rfl) rfl rfl rfl (fun _ => rfl)
noncomputable def NQ (x : cp [.lf (.sl (.st 2)), .fn 77 [] [.pl (.int .i64)]]) : Option (a8 [.lf (.int .i64)]) := fS ⟨prog, [(77, C7)], 19, [.lf (.int .i64)], [.tmp 4], [], [], []⟩ ((Tryz.f70).body.getD .skip) (.s (.n) (.s (.s (.n) (.s (.lp [.leaf 4 (.int .i64), .leaf 8 (.int .i64)] 0 true (.n)) .n)) (.n))) [.lf (.sl (.st 2)), .fn 77 [] [.pl (.int .i64)]] x
noncomputable def WZ : Ent := ⟨[.lf (.sl (.st 2)), .fn 77 [] [.pl (.int .i64)]], [.lf (.int .i64)], NQ⟩
theorem WY : bK prog 70 [.lf (.sl (.st 2)), .fn 77 [] [.pl (.int .i64)]] [.lf (.int .i64)] NQ := cd (n := 19) (.cons (C6) (.nil)) Tryz.mixed Tryz.func70 rfl (by kernel_rfl) rfl rfl rfl (fun _ => rfl)
noncomputable def qe (x : cp [.lf (.sl (.st 2)), .lf (.int .i64)]) : Option (a8 [.lf (.int .i64)]) := fS ⟨prog, [(70, WZ)], 8, [.lf (.int .i64)], [.tmp 4], [], [], [(0, [3])]⟩ ((Tryz.f42).body.getD .skip) (.n) [.lf (.sl (.st 2)), .lf (.int .i64)] x
noncomputable def qf : Ent := ⟨[.lf (.sl (.st 2)), .lf (.int .i64)], [.lf (.int .i64)], qe⟩
theorem qd : bK prog 42 [.lf (.sl (.st 2)), .lf (.int .i64)] [.lf (.int .i64)] qe := cd (n := 8) (.cons (WY) (.nil)) Tryz.mixed Tryz.func42 rfl (by kernel_rfl) rfl rfl rfl (fun _ => rfl)
noncomputable def vj (x : cp [.ag 12, .ag 2]) : Option (a8 [.lf (.int .i64)]) := fS ⟨prog, [(67, BG), (42, qf), (68, xT), (69, Hf)], 28, [.lf (.int .i64)], [.tmp 4], [], [], []⟩ ((Tryz.f32).body.getD .skip) (.n) [.ag 12, .ag 2] x
noncomputable def GA : Ent := ⟨[.ag 12, .ag 2], [.lf (.int .i64)], vj⟩
theorem Gz : bK prog 32 [.ag 12, .ag 2] [.lf (.int .i64)] vj := cd (n := 28) (.cons (BF) (.cons (qd) (.cons (xS) (.cons (He) (.nil))))) Tryz.mixed Tryz.func32 rfl (by kernel_rfl) rfl rfl rfl (fun _ => rfl)
noncomputable def qH (x : cp [.lf (.sl (.st 2))]) : Option (a8 [.lf (.sl (.st 2))]) := fS ⟨prog, [], 15, [.lf (.sl (.st 2))], [.tmp 2], [], [], []⟩ ((Tryz.f34).body.getD .skip) (.n) [.lf (.sl (.st 2))] x
noncomputable def An : Ent := ⟨[.lf (.sl (.st 2))], [.lf (.sl (.st 2))], qH⟩
theorem Am : bK prog 34 [.lf (.sl (.st 2))] [.lf (.sl (.st 2))] qH := cd (n := 15) (.nil) Tryz.mixed Tryz.func34 rfl (by kernel_rfl) rfl rfl rfl (fun _ => rfl)
noncomputable def sn (x : cp [.ag 2, .lf (.int .i64)]) : Option (a8 [.ag 2]) := fS ⟨prog, [], 23, [.ag 2], [.cell 4 30], [], [4], []⟩ ((Tryz.f35).body.getD .skip) (.n) [.ag 2, .lf (.int .i64)] x
noncomputable def BE : Ent := ⟨[.ag 2, .lf (.int .i64)], [.ag 2], sn⟩
theorem BD : bK prog 35 [.ag 2, .lf (.int .i64)] [.ag 2] sn := cd (n := 23) (.nil) Tryz.mixed Tryz.func35 rfl (by kernel_rfl) rfl rfl rfl (fun _ => rfl)
noncomputable def ou (x : cp [.lf (.sl (.st 2)), .ag 2]) : Option (a8 [.lf (.sl (.st 2))]) := fS ⟨prog, [], 45, [.lf (.sl (.st 2))], [.tmp 4], [], [], []⟩ ((Tryz.f33).body.getD .skip) (.s (.n) (.s (.n) (.s (.s (.lp [.leaf 5 (.int .i64)] 0 false (.n)) .n) (.n)))) [.lf (.sl (.st 2)), .ag 2] x
noncomputable def tK : Ent := ⟨[.lf (.sl (.st 2)), .ag 2], [.lf (.sl (.st 2))], ou⟩
theorem tJ : bK prog 33 [.lf (.sl (.st 2)), .ag 2] [.lf (.sl (.st 2))] ou := cd (n := 45) (.nil) Tryz.mixed Tryz.func33 rfl (by kernel_rfl) rfl rfl rfl (fun _ => rfl)
noncomputable def tq (x : cp [.ag 12, .ag 2]) : Option (a8 [.ag 12]) := fS ⟨prog, [(31, tH), (42, qf), (36, nu), (33, tK)], 29, [.ag 12], [.cell 4 43], [(5, [500513])], [4], []⟩ ((Tryz.f20).body.getD .skip) (.n) [.ag 12, .ag 2] x
noncomputable def KT : Ent := ⟨[.ag 12, .ag 2], [.ag 12], tq⟩
theorem KS : bK prog 20 [.ag 12, .ag 2] [.ag 12] tq := cd (n := 29) (.cons (tG) (.cons (qd) (.cons (nr) (.cons (tJ) (.nil))))) Tryz.mixed Tryz.func20 rfl (by kernel_rfl) rfl rfl rfl (fun _ => rfl)
noncomputable def tN (x : cp [.ag 12, .ag 2]) : Option (a8 [.ag 12, .lf (.int .i64)]) := fS ⟨prog, [(31, tH), (32, GA), (34, An), (36, nu), (35, BE), (33, tK)], 27, [.ag 12, .lf (.int .i64)], [.cell 4 43, .tmp 5], [(3, [500577])], [4], []⟩ ((Tryz.f12).body.getD .skip) (.n) [.ag 12, .ag 2] x
noncomputable def C9 : Ent := ⟨[.ag 12, .ag 2], [.ag 12, .lf (.int .i64)], tN⟩
theorem C8 : bK prog 12 [.ag 12, .ag 2] [.ag 12, .lf (.int .i64)] tN := cd (n := 27) (.cons (tG) (.cons (Gz) (.cons (Am) (.cons (nr) (.cons (BD) (.cons (tJ) (.nil))))))) Tryz.mixed Tryz.func12 rfl (by kernel_rfl) rfl rfl rfl (fun _ => rfl)
noncomputable def rh (x : cp [.ag 12, .lf (.int .i64)]) : Option (a8 [.ag 2, .lf (.bool)]) := fS ⟨prog, [(42, qf), (36, nu)], 20, [.ag 2, .lf (.bool)], [.cell 4 30, .tmp 5], [], [4], []⟩ ((Tryz.f15).body.getD .skip) (.n) [.ag 12, .lf (.int .i64)] x
noncomputable def wQ : Ent := ⟨[.ag 12, .lf (.int .i64)], [.ag 2, .lf (.bool)], rh⟩
theorem wP : bK prog 15 [.ag 12, .lf (.int .i64)] [.ag 2, .lf (.bool)] rh := cd (n := 20) (.cons (qd) (.cons (nr) (.nil))) Tryz.mixed Tryz.func15 rfl (by kernel_rfl) rfl rfl rfl (fun _ => rfl)
noncomputable def ot (x : cp [.lf (.int .i64), .lf (.int .i64)]) : Option (a8 [.lf (.int .u64)]) := fS ⟨prog, [], 13, [.lf (.int .u64)], [.tmp 4], [], [], []⟩ ((Tryz.f43).body.getD .skip) (.n) [.lf (.int .i64), .lf (.int .i64)] x
noncomputable def C5 : Ent := ⟨[.lf (.int .i64), .lf (.int .i64)], [.lf (.int .u64)], ot⟩
theorem C4 : bK prog 43 [.lf (.int .i64), .lf (.int .i64)] [.lf (.int .u64)] ot := cd (n := 13) (.nil) Tryz.mixed Tryz.func43 rfl (by kernel_rfl) rfl rfl rfl (fun _ => rfl)
noncomputable def ow (x : cp [.ag 12]) : Option (a8 [.lf (.sl (.int .i64))]) := fS ⟨prog, [(43, C5)], 30, [.lf (.sl (.int .i64))], [.tmp 2], [], [], []⟩ ((Tryz.f23).body.getD .skip) (.s (.n) (.s (.s (.n) (.s (.lp [.row 2 2 3 1 (.int .i64), .leaf 8 (.int .i64)] 0 false (.n)) .n)) (.n))) [.ag 12] x
noncomputable def Db : Ent := ⟨[.ag 12], [.lf (.sl (.int .i64))], ow⟩
theorem Da : bK prog 23 [.ag 12] [.lf (.sl (.int .i64))] ow := cd (n := 30) (.cons (C4) (.nil)) Tryz.mixed Tryz.func23 rfl (by kernel_rfl) rfl rfl rfl (fun _ => rfl)
abbrev EOk (P : Program) (f : FuncId) (e : Ent) : Prop := bK P f e.ps e.rs e.f
theorem aE {P : Program} {T : List (Nat × Ent)} {e : Ent} {f : FuncId} {fn : Func} (h : tU) (fz : List (Nat × List Nat)) (sc : List Nat) (fb : List (Nat × List Nat)) (hT : qF P T) (hm : P.follows .mixedOrders = true) (hf : P.funcs[f]? = some fn) (hb : fn.body = some (fn.body.getD .skip) := by kernel_rfl) (hcb : dN P f = true := by kernel_rfl) (hl : ((decide (e.ps.length ≤ fn.ntmps) && ul e.ps) && !(oN e.ps || oN e.rs)) = true := by kernel_rfl)
  (hF : ∀ x, fS ⟨P, T, fn.ntmps, e.rs, fn.results.toList, fz, sc, fb⟩ (fn.body.getD .skip) h e.ps x = e.f x := by intro x; kernel_rfl) : bK P f e.ps e.rs e.f := cd hT hm hf hb hcb rfl rfl hl hF
def zi (v_n : Int) : Option (Bool) :=
 (if (decide (v_n ≥ 0)) = true then some (decide (v_n ≤ 1125899906842624)) else some false).bind fun q1 => some q1
def tf (v_a : ax) : Option (Bool) :=
 (zi v_a.bD).bind fun c1 => (if c1 = true then (zi v_a.bj).bind fun c2 => some c2 else some false).bind fun q3 => some q3
def fL (v_a : ax) (v_b : ax) : Option (Bool) :=
 (if (decide (v_a.bD ≤ v_b.bD)) = true then some (decide (v_a.bj ≤ v_b.bj)) else some false).bind fun q1 => some q1
def vK (v_a : ax) (v_b : ax) : Option (ax) :=
 some (⟨(if 0 > (i64.wrap (v_a.bD - v_b.bD)) then 0 else (i64.wrap (v_a.bD - v_b.bD))), (if 0 > (i64.wrap (v_a.bj - v_b.bj)) then 0 else (i64.wrap (v_a.bj - v_b.bj)))⟩ : ax)
def dc (v_a : ax) (v_b : ax) : Option (ax) :=
 some (⟨(i64.wrap (v_a.bD + v_b.bD)), (i64.wrap (v_a.bj + v_b.bj))⟩ : ax)
def uQ (v_n : Int) (Ay : Int) : Option (Int) :=
 some (i64.wrap ((i64.wrap ((i64.wrap (Int.tdiv v_n 10000)) * Ay)) + (i64.wrap (Int.tdiv (i64.wrap ((Int.tmod v_n 10000) * Ay)) 10000))))
def uR (v_a : ax) (Ay : Int) : Option (ax × Int) :=
 (tf v_a).bind fun c1 => (if (!c1) = true then some true else some (decide (Ay < 0))).bind fun q2 => (if q2 = true then some true else some (decide (Ay > 1000000))).bind fun q3 => if q3 = true then
 some ((⟨0, 0⟩ : ax), 1)
 else
 (uQ v_a.bD Ay).bind fun c4 => (uQ v_a.bj Ay).bind fun c5 => let v_c : ax := (⟨c4, c5⟩ : ax)
 (tf v_c).bind fun c6 => if (!c6) = true then
 some ((⟨0, 0⟩ : ax), 11)
 else
 some (v_c, 0)
def zh (v_a : Int) (v_b : Int) : Option (Int × Int) :=
 let t1 : Int := (Int.fdiv v_a (2 ^ (min (Int.toNat 25) (IntKind.i64.bits))))
 let t2 : Int := (bits .and .i64 v_a 33554431)
 let t3 : Int := (Int.fdiv v_b (2 ^ (min (Int.toNat 25) (IntKind.i64.bits))))
 let t4 : Int := (bits .and .i64 v_b 33554431)
 let Si : Int := t1
 let UV : Int := t2
 let Sh : Int := t3
 let UU : Int := t4
 let YE : Int := (i64.wrap ((i64.wrap (Si * UU)) + (i64.wrap (UV * Sh))))
 let YG : Int := (i64.wrap ((i64.wrap (UV * UU)) + (i64.wrap ((bits .and .i64 YE 33554431) * 2 ^ (min (Int.toNat 25) (IntKind.i64.bits))))))
 let Y4 : Int := (i64.wrap ((i64.wrap ((i64.wrap (Si * Sh)) + (Int.fdiv YE (2 ^ (min (Int.toNat 25) (IntKind.i64.bits)))))) + (Int.fdiv YG (2 ^ (min (Int.toNat 50) (IntKind.i64.bits))))))
 some (Y4, (bits .and .i64 YG 1125899906842623))
def pM (v_x : bb) (v_y : bb) : Option (Int) :=
 (if (v_x.fA == 0) = true then
 let v_x : bb := { v_x with fP := 1 }
 some v_x
 else
 some v_x).bind fun j1 => let v_x := j1
 (if (v_y.fA == 0) = true then
 let v_y : bb := { v_y with fP := 1 }
 some v_y
 else
 some v_y).bind fun j2 => let v_y := j2
 (if (v_x.fP == 0) = true then some true else some (v_y.fP == 0)).bind fun q3 => if q3 = true then
 (if (v_x.fP == 0) = true then some (v_y.fP == 0) else some false).bind fun q4 => if q4 = true then
 some 0
 else
 if (v_x.fP == 0) = true then
 some 1
 else
 some (-1)
 else
 (zh v_x.fA v_y.fP).bind fun c5 => let Si : Int := c5.1
 let UV : Int := c5.2
 (zh v_y.fA v_x.fP).bind fun c6 => let Sh : Int := c6.1
 let UU : Int := c6.2
 (if (decide (Si < Sh)) = true then some true else (if (Si == Sh) = true then some (decide (UV < UU)) else some false).bind fun q7 => some q7).bind fun q8 => if q8 = true then
 some (-1)
 else
 (if (Si == Sh) = true then some (UV == UU) else some false).bind fun q9 => if q9 = true then
 some 0
 else
 some 1
def zj (v_a : ax) (v_p : ax) : Option (bb) :=
 let t1 : bb := (⟨v_a.bD, v_p.bD⟩ : bb)
 let t2 : bb := (⟨v_a.bj, v_p.bj⟩ : bb)
 let v_x : bb := t1
 let v_y : bb := t2
 (pM v_x v_y).bind fun c3 => if (decide (c3 < 0)) = true then
 some v_y
 else
 some v_x
def zk (v_a : ax) (v_p : ax) (v_b : ax) (v_q : ax) : Option (Int) :=
 (tf v_a).bind fun c1 => (if (!c1) = true then some true else (tf v_p).bind fun c2 => some (!c2)).bind fun q3 => (if q3 = true then some true else (tf v_b).bind fun c4 => some (!c4)).bind fun q5 => (if q5 = true then some true else (tf v_q).bind fun c6 => some (!c6)).bind fun q7 => if q7 = true then
 some 0
 else
 (zj v_a v_p).bind fun c8 => (zj v_b v_q).bind fun c9 => (pM c8 c9).bind fun c10 => some c10
def qR (v_s : ByteArray) (st : Int) : Option ((Int) ⊕ ((Int) ⊕ (Bool))) :=
 let v_i := st
 if (decide (v_i < (v_s.size : Int))) = true then
 (kW v_s v_i).bind fun b2 => let v_c : Int := b2
 (if (decide (v_c < 97)) = true then some true else some (decide (v_c > 122))).bind fun q3 => (if q3 = true then (if (decide (v_c < 48)) = true then some true else some (decide (v_c > 57))).bind fun q4 => some q4 else some false).bind fun q5 => (if q5 = true then some (v_c != 45) else some false).bind fun q6 => if q6 = true then
 some (.inr (.inr false))
 else
 let v_i : Int := (i64.wrap (v_i + 1))
 some (.inl v_i)
 else
 some (.inr (.inl v_i))
def vI (v_s : ByteArray) : Option (Bool) :=
 (if (decide ((v_s.size : Int) < 1)) = true then some true else some (decide ((v_s.size : Int) > 12))).bind fun q1 => if q1 = true then
 some false
 else
 let v_i : Int := 0
 (ah (qR v_s) ab v_i).bind fun r7 => match r7 with
 | .inr m8 => some m8
 | .inl m8 =>
 let v_i := m8
 some true
def iZ (au : ByteArray) (st : Int) : Option ((Int) ⊕ ((Int))) :=
 let v_k := st
 (if (decide (v_k ≥ 0)) = true then (kW au v_k).bind fun b1 => some (b1 != 46) else some false).bind fun q2 => if q2 = true then
 let v_k : Int := (i64.wrap (v_k - 1))
 some (.inl v_k)
 else
 some (.inr v_k)
def dQ (au : ByteArray) : Option (ByteArray) :=
 let v_k : Int := (i64.wrap ((au.size : Int) - 1))
 (ah (iZ au) ab v_k).bind fun r3 =>
 let v_k := r3
 if (decide (v_k < 0)) = true then
 some (⟨#[]⟩ : ByteArray)
 else
 (Oe au v_k).bind fun b4 => some b4
def nN (st : (List ByteArray) × ByteArray) : Option (((List ByteArray) × ByteArray) ⊕ (((List ByteArray) × ByteArray))) :=
 let v_l := st.1
 let au := st.2
 if (!(au.toList == (⟨#[]⟩ : ByteArray).toList)) = true then
 (aU v_l [au]).bind fun b1 => let v_l : (List ByteArray) := b1
 (dQ au).bind fun c2 => let au : ByteArray := c2
 some (.inl (v_l, au))
 else
 some (.inr (v_l, au))
def y6 (au : ByteArray) : Option ((List ByteArray)) :=
 let v_l : (List ByteArray) := []
 (ah (nN) ab (v_l, au)).bind fun r3 =>
 let v_l := r3.1
 let au := r3.2
 some v_l
def n8 (v_s : ByteArray) (st : Int × Int × Int) : Option ((Int × Int × Int) ⊕ ((Int × Int × Int) ⊕ (Bool))) :=
 let oC := st.1
 let v_n := st.2.1
 let v_i := st.2.2
 if (decide (v_i ≤ (v_s.size : Int))) = true then
 (if (decide (v_i < (v_s.size : Int))) = true then (kW v_s v_i).bind fun b3 => some (b3 != 46) else some false).bind fun q4 => if q4 = true then
 let v_i : Int := (i64.wrap (v_i + 1))
 some (.inl (oC, v_n, v_i))
 else
 (Jl v_s oC v_i).bind fun b5 => (vI b5).bind fun c6 => (if (!c6) = true then some true else (if (v_n == 0) = true then (Jl v_s oC v_i).bind fun b7 => some (!(b7.toList == (⟨#[114, 111, 111, 116]⟩ : ByteArray).toList)) else some false).bind fun q8 => some q8).bind fun q9 => if q9 = true then
 some (.inr (.inr false))
 else
 let oC : Int := (i64.wrap (v_i + 1))
 let v_n : Int := (i64.wrap (v_n + 1))
 let v_i : Int := (i64.wrap (v_i + 1))
 some (.inl (oC, v_n, v_i))
 else
 some (.inr (.inl (oC, v_n, v_i)))
def vH (v_s : ByteArray) : Option (Bool) :=
 let t1 : Int := 0
 let t2 : Int := 0
 let oC : Int := t1
 let v_n : Int := t2
 let v_i : Int := 0
 (ah (n8 v_s) ab (oC, v_n, v_i)).bind fun r10 => match r10 with
 | .inr m11 => some m11
 | .inl m11 =>
 let oC := m11.1
 let v_n := m11.2.1
 let v_i := m11.2.2
 some (decide (v_n ≤ 4))
def nj (v_c : aw) (au : ByteArray) (st : Int) : Option ((Int) ⊕ ((Int) ⊕ (az × Bool))) :=
 let v_i := st
 if (decide (v_i < (v_c.ae.length : Int))) = true then
 (av v_c.ae v_i).bind fun b1 => if (b1.aF.toList == au.toList) = true then
 (av v_c.ae v_i).bind fun b2 => let v_q : az := b2
 (aU ([] : (List ei)) v_q.bl).bind fun b3 => let v_q : az := { v_q with bl := b3 }
 some (.inr (.inr (v_q, true)))
 else
 let v_i : Int := (i64.wrap (v_i + 1))
 some (.inl v_i)
 else
 some (.inr (.inl v_i))
def jq (v_c : aw) (au : ByteArray) : Option (az × Bool) :=
 let v_i : Int := 0
 (ah (nj v_c au) ab v_i).bind fun r4 => match r4 with
 | .inr m5 => some m5
 | .inl m5 =>
 let v_i := m5
 some ((⟨⟨#[]⟩, [], 0⟩ : az), false)
def ni (v_c : aw) (au : ByteArray) (st : (List ByteArray) × Int) : Option (((List ByteArray) × Int) ⊕ (((List ByteArray) × Int))) :=
 let v_l := st.1
 let v_i := st.2
 if (decide (v_i < (v_c.ae.length : Int))) = true then
 (if (!(au.toList == (⟨#[]⟩ : ByteArray).toList)) = true then (av v_c.ae v_i).bind fun b1 => (dQ b1.aF).bind fun c2 => some (c2.toList == au.toList) else some false).bind fun q3 => if q3 = true then
 (av v_c.ae v_i).bind fun b4 => (aU v_l [b4.aF]).bind fun b5 => let v_l : (List ByteArray) := b5
 let v_i : Int := (i64.wrap (v_i + 1))
 some (.inl (v_l, v_i))
 else
 let v_i : Int := (i64.wrap (v_i + 1))
 some (.inl (v_l, v_i))
 else
 some (.inr (v_l, v_i))
def ff (v_c : aw) (au : ByteArray) : Option ((List ByteArray)) :=
 let v_l : (List ByteArray) := []
 let v_i : Int := 0
 (ah (ni v_c au) ab (v_l, v_i)).bind fun r6 =>
 let v_l := r6.1
 let v_i := r6.2
 some v_l
def jV (v_c : aw) (au : ByteArray) : Option (Bool) :=
 (jq v_c au).bind fun c1 => let bS : Bool := c1.2
 (if bS = true then (ff v_c au).bind fun c2 => some ((c2.length : Int) == 0) else some false).bind fun q3 => some q3
def n7 (v_c : aw) (st : Int) : Option ((Int) ⊕ ((Int) ⊕ (Int))) :=
 let v_i := st
 if (decide (v_i < (v_c.ak.length : Int))) = true then
 (av v_c.ak v_i).bind fun b4 => (vI b4).bind fun c5 => if (!c5) = true then
 some (.inr (.inr 12))
 else
 let v_i : Int := (i64.wrap (v_i + 1))
 some (.inl v_i)
 else
 some (.inr (.inl v_i))
def n5 (aI : Int) (v_c : aw) (st : Int) : Option ((Int) ⊕ ((Int) ⊕ (Int))) :=
 let v_k := st
 if (decide (v_k < aI)) = true then
 (av v_c.ak aI).bind fun b8 => (av v_c.ak v_k).bind fun b9 => if (b8.toList == b9.toList) = true then
 some (.inr (.inr 7))
 else
 let v_k : Int := (i64.wrap (v_k + 1))
 some (.inl v_k)
 else
 some (.inr (.inl v_k))
def n6 (v_c : aw) (st : Int) : Option ((Int) ⊕ ((Int) ⊕ (Int))) :=
 let aI := st
 if (decide (aI < (v_c.ak.length : Int))) = true then
 let v_k : Int := 1
 (ah (n5 aI v_c) ab v_k).bind fun r10 => match r10 with
 | .inr m11 => some (.inr (.inr m11))
 | .inl m11 =>
 let v_k := m11
 let aI : Int := (i64.wrap (aI + 1))
 some (.inl aI)
 else
 some (.inr (.inl aI))
def rX (v_c : aw) : Option (Int) :=
 (if (decide ((v_c.ak.length : Int) < 1)) = true then some true else some (decide ((v_c.ak.length : Int) > 3))).bind fun q1 => (if q1 = true then some true else some (decide ((v_c.ae.length : Int) > 16))).bind fun q2 => if q2 = true then
 some 4
 else
 (av v_c.ak 0).bind fun b3 => if (!(b3.toList == (⟨#[]⟩ : ByteArray).toList)) = true then
 some 12
 else
 let v_i : Int := 1
 (ah (n7 v_c) ab v_i).bind fun r6 => match r6 with
 | .inr m7 => some m7
 | .inl m7 =>
 let v_i := m7
 let aI : Int := 1
 (ah (n6 v_c) ab aI).bind fun r12 => match r12 with
 | .inr m13 => some m13
 | .inl m13 =>
 let aI := m13
 some 0
def lr (v_q : az) (st : Int) : Option ((Int) ⊕ ((Int) ⊕ (Int))) :=
 let v_k := st
 if (decide (v_k < (v_q.bl.length : Int))) = true then
 (av v_q.bl v_k).bind fun b10 => let v_x : ei := b10
 (if (decide (v_x.kt < 0)) = true then some true else some (decide (v_x.kt > 10000))).bind fun q11 => (if q11 = true then some true else some (decide (v_x.rN < 0))).bind fun q12 => (if q12 = true then some true else some (decide (v_x.rN > 10000))).bind fun q13 => (if q13 = true then some true else some (decide (v_x.kt > v_x.rN))).bind fun q14 => if q14 = true then
 some (.inr (.inr 1))
 else
 let v_k : Int := (i64.wrap (v_k + 1))
 some (.inl v_k)
 else
 some (.inr (.inl v_k))
def uN (v_c : aw) (v_i : Int) : Option (Int) :=
 (av v_c.ae v_i).bind fun b1 => let v_q : az := b1
 (vH v_q.aF).bind fun c2 => if (!c2) = true then
 some 12
 else
 (if (decide (v_i > 0)) = true then (av v_c.ae (i64.wrap (v_i - 1))).bind fun b3 => some (Op.bytesLess v_q.aF.toList b3.aF.toList || (v_q.aF.toList == b3.aF.toList)) else some false).bind fun q4 => if q4 = true then
 some 7
 else
 (dQ v_q.aF).bind fun c5 => (jq v_c c5).bind fun c6 => let bS : Bool := c6.2
 (if (decide (v_i > 0)) = true then some (!bS) else some false).bind fun q7 => if q7 = true then
 some 12
 else
 (if (decide (v_q.cW < 1)) = true then some true else some (decide (v_q.cW > 1000000))).bind fun q8 => (if q8 = true then some true else some ((v_q.bl.length : Int) != (v_c.ak.length : Int))).bind fun q9 => if q9 = true then
 some 1
 else
 let v_k : Int := 0
 (ah (lr v_q) ab v_k).bind fun r15 => match r15 with
 | .inr m16 => some m16
 | .inl m16 =>
 let v_k := m16
 some 0
def jR (bw : (List ByteArray)) (v_c : aw) (v_k : Int) (st : Int × Int) : Option ((Int × Int) ⊕ ((Int × Int))) :=
 let v_n := st.1
 let v_j := st.2
 if (decide (v_j < (bw.length : Int))) = true then
 (av bw v_j).bind fun b4 => (jq v_c b4).bind fun c5 => let v_q : az := c5.1
 (av v_q.bl v_k).bind fun b6 => let v_n : Int := (i64.wrap (v_n + b6.kt))
 let v_j : Int := (i64.wrap (v_j + 1))
 some (.inl (v_n, v_j))
 else
 some (.inr (v_n, v_j))
def ng (v_c : aw) (bw : (List ByteArray)) (st : Int) : Option ((Int) ⊕ ((Int) ⊕ (Bool))) :=
 let v_k := st
 (if (decide (v_k < (v_c.ak.length : Int))) = true then some (decide ((bw.length : Int) > 0)) else some false).bind fun q3 => if q3 = true then
 let v_n : Int := 0
 let v_j : Int := 0
 (ah (jR bw v_c v_k) ab (v_n, v_j)).bind fun r7 =>
 let v_n := r7.1
 let v_j := r7.2
 if (v_n != 10000) = true then
 some (.inr (.inr false))
 else
 let v_k : Int := (i64.wrap (v_k + 1))
 some (.inl v_k)
 else
 some (.inr (.inl v_k))
def nh (v_c : aw) (st : Int) : Option ((Int) ⊕ ((Int) ⊕ (Bool))) :=
 let v_i := st
 if (decide (v_i < (v_c.ae.length : Int))) = true then
 (av v_c.ae v_i).bind fun b1 => (ff v_c b1.aF).bind fun c2 => let bw : (List ByteArray) := c2
 let v_k : Int := 0
 (ah (ng v_c bw) ab v_k).bind fun r8 => match r8 with
 | .inr m9 => some (.inr (.inr m9))
 | .inl m9 =>
 let v_k := m9
 let v_i : Int := (i64.wrap (v_i + 1))
 some (.inl v_i)
 else
 some (.inr (.inl v_i))
def DC (v_c : aw) : Option (Bool) :=
 let v_i : Int := 0
 (ah (nh v_c) ab v_i).bind fun r10 => match r10 with
 | .inr m11 => some m11
 | .inl m11 =>
 let v_i := m11
 some true
def pF (v_c : aw) (st : Int) : Option ((Int) ⊕ ((Int) ⊕ (Int))) :=
 let v_i := st
 if (decide (v_i < (v_c.ae.length : Int))) = true then
 (uN v_c v_i).bind fun c5 => if (c5 != 0) = true then
 (uN v_c v_i).bind fun c6 => some (.inr (.inr c6))
 else
 let v_i : Int := (i64.wrap (v_i + 1))
 some (.inl v_i)
 else
 some (.inr (.inl v_i))
def pE (v_c : aw) (st : Int) : Option ((Int) ⊕ ((Int) ⊕ (Int))) :=
 let v_k := st
 if (decide (v_k < (v_c.ak.length : Int))) = true then
 (av v_c.ae 0).bind fun b9 => (av b9.bl v_k).bind fun b10 => if (!((b10.kt == (⟨10000, 10000⟩ : ei).kt) && (b10.rN == (⟨10000, 10000⟩ : ei).rN))) = true then
 some (.inr (.inr 13))
 else
 let v_k : Int := (i64.wrap (v_k + 1))
 some (.inl v_k)
 else
 some (.inr (.inl v_k))
def uP (v_c : aw) : Option (Int) :=
 (rX v_c).bind fun c1 => if (c1 != 0) = true then
 (rX v_c).bind fun c2 => some c2
 else
 (if ((v_c.ae.length : Int) == 0) = true then some true else (av v_c.ae 0).bind fun b3 => some (!(b3.aF.toList == (⟨#[114, 111, 111, 116]⟩ : ByteArray).toList))).bind fun q4 => if q4 = true then
 some 12
 else
 let v_i : Int := 0
 (ah (pF v_c) ab v_i).bind fun r7 => match r7 with
 | .inr m8 => some m8
 | .inl m8 =>
 let v_i := m8
 let v_k : Int := 0
 (ah (pE v_c) ab v_k).bind fun r11 => match r11 with
 | .inr m12 => some m12
 | .inl m12 =>
 let v_k := m12
 (DC v_c).bind fun c13 => if (!c13) = true then
 some 13
 else
 some 0
def ln (v_s : aa) (af : Int) (st : ax × Int) : Option ((ax × Int) ⊕ ((ax × Int))) :=
 let v_v := st.1
 let v_i := st.2
 if (decide (v_i < (v_s.aB.length : Int))) = true then
 (av v_s.aB v_i).bind fun b1 => (if b1.fUp = true then (av v_s.aB v_i).bind fun b2 => some (b2.aY == af) else some false).bind fun q3 => if q3 = true then
 (av v_s.aB v_i).bind fun b4 => (dc v_v b4.kJ).bind fun c5 => let v_v : ax := c5
 let v_i : Int := (i64.wrap (v_i + 1))
 some (.inl (v_v, v_i))
 else
 let v_i : Int := (i64.wrap (v_i + 1))
 some (.inl (v_v, v_i))
 else
 some (.inr (v_v, v_i))
def iY (v_s : aa) (af : Int) : Option (ax) :=
 let v_v : ax := (⟨0, 0⟩ : ax)
 let v_i : Int := 0
 (ah (ln v_s af) ab (v_v, v_i)).bind fun r6 =>
 let v_v := r6.1
 let v_i := r6.2
 some v_v
def nf (v_s : aa) (af : Int) (st : ax × Int) : Option ((ax × Int) ⊕ ((ax × Int))) :=
 let v_v := st.1
 let v_i := st.2
 if (decide (v_i < (v_s.bg.length : Int))) = true then
 (av v_s.bg v_i).bind fun b1 => let v_p : a7 := b1
 (if (v_p.aY == af) = true then some (decide (v_p.nG ≤ v_s.bW)) else some false).bind fun q2 => (if q2 = true then some (decide (v_s.bW < v_p.jJ)) else some false).bind fun q3 => if q3 = true then
 (dc v_v v_p.iH).bind fun c4 => let v_v : ax := c4
 let v_i : Int := (i64.wrap (v_i + 1))
 some (.inl (v_v, v_i))
 else
 let v_i : Int := (i64.wrap (v_i + 1))
 some (.inl (v_v, v_i))
 else
 some (.inr (v_v, v_i))
def tb (v_s : aa) (af : Int) : Option (ax) :=
 let v_v : ax := (⟨0, 0⟩ : ax)
 let v_i : Int := 0
 (ah (nf v_s af) ab (v_v, v_i)).bind fun r5 =>
 let v_v := r5.1
 let v_i := r5.2
 some v_v
def qQ (v_s : aa) (iP : (List ByteArray)) (af : Int) (bV : Bool) (st : ax × Int) : Option ((ax × Int) ⊕ ((ax × Int))) :=
 let v_v := st.1
 let v_i := st.2
 if (decide (v_i ≥ 0)) = true then
 (av iP v_i).bind fun b6 => (jq v_s.bN b6).bind fun c7 => let v_q : az := c7.1
 (av v_q.bl af).bind fun b8 => let Ay : Int := b8.rN
 (if bV = true then
 (av v_q.bl af).bind fun b10 => let Ay : Int := b10.kt
 some Ay
 else
 some Ay).bind fun j9 => let Ay := j9
 (uR v_v Ay).bind fun c11 => let v_v : ax := c11.1
 let v_i : Int := (i64.wrap (v_i - 1))
 some (.inl (v_v, v_i))
 else
 some (.inr (v_v, v_i))
def ta (v_s : aa) (au : ByteArray) (af : Int) (bV : Bool) : Option (ax) :=
 (jq v_s.bN au).bind fun c1 => let bS : Bool := c1.2
 (if (!bS) = true then some true else some (decide (af < 0))).bind fun q2 => (if q2 = true then some true else some (decide (af ≥ (v_s.bN.ak.length : Int)))).bind fun q3 => if q3 = true then
 some (⟨0, 0⟩ : ax)
 else
 (iY v_s af).bind fun c4 => let v_v : ax := c4
 (y6 au).bind fun c5 => let iP : (List ByteArray) := c5
 let v_i : Int := (i64.wrap ((iP.length : Int) - 2))
 (ah (qQ v_s iP af bV) ab (v_v, v_i)).bind fun r12 =>
 let v_v := r12.1
 let v_i := r12.2
 some v_v
def lq (v_s : aa) (au : ByteArray) (af : Int) : Option (ax) :=
 (ta v_s au af true).bind fun c1 => some c1
def vG (v_s : aa) (au : ByteArray) (af : Int) : Option (ax) :=
 (ta v_s au af false).bind fun c1 => some c1
def DB (v_s : aa) (au : ByteArray) (af : Int) : Option (ax) :=
 (jq v_s.bN au).bind fun c1 => let v_q : az := c1.1
 let bS : Bool := c1.2
 if (!bS) = true then
 some (⟨0, 0⟩ : ax)
 else
 (lq v_s au af).bind fun c2 => (uR c2 v_q.cW).bind fun c3 => let v_v : ax := c3.1
 some v_v
def lX (v_s : aa) (bA : Int) (st : Int) : Option ((Int) ⊕ ((Int) ⊕ (aq × Bool))) :=
 let v_i := st
 if (decide (v_i < (v_s.ai.length : Int))) = true then
 (av v_s.ai v_i).bind fun b1 => if (b1.fId == bA) = true then
 (av v_s.ai v_i).bind fun b2 => some (.inr (.inr (b2, true)))
 else
 let v_i : Int := (i64.wrap (v_i + 1))
 some (.inl v_i)
 else
 some (.inr (.inl v_i))
def dV (v_s : aa) (bA : Int) : Option (aq × Bool) :=
 let v_i : Int := 0
 (ah (lX v_s bA) ab v_i).bind fun r3 => match r3 with
 | .inr m4 => some m4
 | .inl m4 =>
 let v_i := m4
 some ((⟨0, 0, ⟨#[]⟩, 0, 0, ax.zero, [], 0, 0, [], [], [], []⟩ : aq), false)
def nq (v_s : aa) (v_a : aq) (st : Int) : Option ((Int) ⊕ ((Int))) :=
 let v_k := st
 (if (decide (v_k < (v_s.ai.length : Int))) = true then (av v_s.ai v_k).bind fun b1 => some (decide (b1.fId < v_a.fId)) else some false).bind fun q2 => if q2 = true then
 let v_k : Int := (i64.wrap (v_k + 1))
 some (.inl v_k)
 else
 some (.inr v_k)
def eb (v_s : aa) (v_a : aq) : Option (aa) :=
 let v_k : Int := 0
 (ah (nq v_s v_a) ab v_k).bind fun r3 =>
 let v_k := r3
 (hiO v_s.ai v_k).bind fun b4 => (aU ([] : (List aq)) b4).bind fun b5 => let v_l : (List aq) := b5
 (aU v_l [v_a]).bind fun b6 => let v_l : (List aq) := b6
 (if (decide (v_k < (v_s.ai.length : Int))) = true then (av v_s.ai v_k).bind fun b7 => some (b7.fId == v_a.fId) else some false).bind fun q8 => (if q8 = true then
 let v_k : Int := (i64.wrap (v_k + 1))
 some v_k
 else
 some v_k).bind fun j9 => let v_k := j9
 (loO v_s.ai v_k).bind fun b10 => (aU v_l b10).bind fun b11 => let v_s : aa := { v_s with ai := b11 }
 some v_s
def cX (v_a : aq) : Option (Bool) :=
 (if (v_a.cw == 1) = true then some true else some (v_a.cw == 2)).bind fun q1 => some q1
def vb (v_n : Int) : Option (Bool) :=
 (if (decide (v_n ≥ 1)) = true then some (decide (v_n ≤ 1073741824)) else some false).bind fun q1 => some q1
def pa (v_a : aq) : Option ((List aL)) :=
 some ([(⟨0, 0, v_a.bB, 1, (-1), (-1), 0⟩ : aL)] : (List aL))
def jB (v_s : aa) (st : Bool × (List aq) × Int) : Option ((Bool × (List aq) × Int) ⊕ ((Bool × (List aq) × Int))) :=
 let cu := st.1
 let v_l := st.2.1
 let v_i := st.2.2
 if (decide (v_i < (v_s.ai.length : Int))) = true then
 (if (!cu) = true then (av v_s.ai v_i).bind fun b1 => (cX b1).bind fun c2 => some (!c2) else some false).bind fun q3 => if q3 = true then
 let cu : Bool := true
 let v_i : Int := (i64.wrap (v_i + 1))
 some (.inl (cu, v_l, v_i))
 else
 (av v_s.ai v_i).bind fun b4 => (aU v_l [b4]).bind fun b5 => let v_l : (List aq) := b5
 let v_i : Int := (i64.wrap (v_i + 1))
 some (.inl (cu, v_l, v_i))
 else
 some (.inr (cu, v_l, v_i))
def tn (v_s : aa) : Option (aa) :=
 let v_l : (List aq) := []
 let cu : Bool := false
 let v_i : Int := 0
 (ah (jB v_s) ab (cu, v_l, v_i)).bind fun r6 =>
 let cu := r6.1
 let v_l := r6.2.1
 let v_i := r6.2.2
 let v_s : aa := { v_s with ai := v_l }
 some v_s
def jC (v_s : aa) (st : Int × Int) : Option ((Int × Int) ⊕ ((Int × Int))) :=
 let kQ := st.1
 let v_i := st.2
 if (decide (v_i < (v_s.ai.length : Int))) = true then
 (av v_s.ai v_i).bind fun b11 => (cX b11).bind fun c12 => if c12 = true then
 let kQ : Int := (i64.wrap (kQ + 1))
 let v_i : Int := (i64.wrap (v_i + 1))
 some (.inl (kQ, v_i))
 else
 let v_i : Int := (i64.wrap (v_i + 1))
 some (.inl (kQ, v_i))
 else
 some (.inr (kQ, v_i))
def tp (v_s : aa) (v_a : aq) : Option (aa × Int) :=
 (if (decide (v_a.fId < 0)) = true then some true else some (decide (v_a.fId > 9999))).bind fun q1 => (if q1 = true then some true else some (decide (v_a.cW < 0))).bind fun q2 => (if q2 = true then some true else some (decide (v_a.cW > 99))).bind fun q3 => (if q3 = true then some true else some (decide (v_a.bu < 0))).bind fun q4 => (if q4 = true then some true else some (decide (v_a.bu > 9))).bind fun q5 => (if q5 = true then some true else (vb v_a.bB.bD).bind fun c6 => some (!c6)).bind fun q7 => (if q7 = true then some true else (vb v_a.bB.bj).bind fun c8 => some (!c8)).bind fun q9 => if q9 = true then
 some (v_s, 1)
 else
 (dV v_s v_a.fId).bind fun c10 => let bS : Bool := c10.2
 if bS = true then
 some (v_s, 7)
 else
 let kQ : Int := 0
 let v_i : Int := 0
 (ah (jC v_s) ab (kQ, v_i)).bind fun r13 =>
 let kQ := r13.1
 let v_i := r13.2
 if (decide (kQ ≥ 16)) = true then
 some (v_s, 4)
 else
 (jV v_s.bN v_a.bF).bind fun c14 => if (!c14) = true then
 some (v_s, 19)
 else
 (if (decide ((v_s.ai.length : Int) ≥ 16)) = true then
 (tn v_s).bind fun c16 => let v_s : aa := c16
 some v_s
 else
 some v_s).bind fun j15 => let v_s := j15
 (pa v_a).bind fun c17 => (eb v_s (⟨v_a.fId, 1, v_a.bF, v_a.cW, v_a.bu, v_a.bB, c17, v_s.bW, 0, [], [], [], []⟩ : aq)).bind fun c18 => some (c18, 0)
def lV (v_s : aa) (bA : Int) (st : (List Int) × (List am) × Int) : Option (((List Int) × (List am) × Int) ⊕ (((List Int) × (List am) × Int))) :=
 let jI := st.1
 let v_l := st.2.1
 let v_i := st.2.2
 if (decide (v_i < (v_s.ac.length : Int))) = true then
 (av v_s.ac v_i).bind fun b1 => if (b1.bC == bA) = true then
 (av v_s.ac v_i).bind fun b2 => (aU jI [b2.fId]).bind fun b3 => let jI : (List Int) := b3
 let v_i : Int := (i64.wrap (v_i + 1))
 some (.inl (jI, v_l, v_i))
 else
 (av v_s.ac v_i).bind fun b4 => (aU v_l [b4]).bind fun b5 => let v_l : (List am) := b5
 let v_i : Int := (i64.wrap (v_i + 1))
 some (.inl (jI, v_l, v_i))
 else
 some (.inr (jI, v_l, v_i))
def lU (v_s : aa) (bA : Int) (st : (List bt) × Int) : Option (((List bt) × Int) ⊕ (((List bt) × Int))) :=
 let iC := st.1
 let aI := st.2
 if (decide (aI < (v_s.aQ.length : Int))) = true then
 (av v_s.aQ aI).bind fun b7 => if (b7.bC != bA) = true then
 (av v_s.aQ aI).bind fun b8 => (aU iC [b8]).bind fun b9 => let iC : (List bt) := b9
 let aI : Int := (i64.wrap (aI + 1))
 some (.inl (iC, aI))
 else
 let aI : Int := (i64.wrap (aI + 1))
 some (.inl (iC, aI))
 else
 some (.inr (iC, aI))
def sk (v_s : aa) (bA : Int) : Option (aa × (List Int)) :=
 let v_l : (List am) := []
 let iC : (List bt) := []
 let jI : (List Int) := []
 let v_i : Int := 0
 (ah (lV v_s bA) ab (jI, v_l, v_i)).bind fun r6 =>
 let jI := r6.1
 let v_l := r6.2.1
 let v_i := r6.2.2
 let aI : Int := 0
 (ah (lU v_s bA) ab (iC, aI)).bind fun r10 =>
 let iC := r10.1
 let aI := r10.2
 let t11 : (List am) := v_l
 let t12 : (List bt) := iC
 let v_s : aa := { v_s with ac := t11 }
 let v_s : aa := { v_s with aQ := t12 }
 some (v_s, jI)
def KR (v_s : aa) (bA : Int) (I9 : Int) : Option (aa × (List Int)) :=
 (dV v_s bA).bind fun c1 => let v_a : aq := c1.1
 let bS : Bool := c1.2
 (if (!bS) = true then some true else (cX v_a).bind fun c2 => some (!c2)).bind fun q3 => if q3 = true then
 some (v_s, [])
 else
 let v_a : aq := { v_a with cw := I9 }
 let t4 : (List aL) := []
 let t5 : (List Int) := []
 let t6 : (List Int) := []
 let t7 : (List Int) := []
 let t8 : (List Int) := []
 let v_a : aq := { v_a with bE := t4 }
 let v_a : aq := { v_a with bM := t5 }
 let v_a : aq := { v_a with dj := t6 }
 let v_a : aq := { v_a with jH := t7 }
 let v_a : aq := { v_a with jP := t8 }
 (eb v_s v_a).bind fun c9 => (sk c9 bA).bind fun c10 => some c10
def lY (v_s : aa) (bA : Int) (st : Int) : Option ((Int) ⊕ ((Int) ⊕ (am × Bool))) :=
 let v_i := st
 if (decide (v_i < (v_s.ac.length : Int))) = true then
 (av v_s.ac v_i).bind fun b1 => if (b1.fId == bA) = true then
 (av v_s.ac v_i).bind fun b2 => some (.inr (.inr (b2, true)))
 else
 let v_i : Int := (i64.wrap (v_i + 1))
 some (.inl v_i)
 else
 some (.inr (.inl v_i))
def eL (v_s : aa) (bA : Int) : Option (am × Bool) :=
 let v_i : Int := 0
 (ah (lY v_s bA) ab v_i).bind fun r3 => match r3 with
 | .inr m4 => some m4
 | .inl m4 =>
 let v_i := m4
 some ((⟨0, 0, 0, ax.zero, 0, 0, false, 0⟩ : am), false)
def lZ (v_s : aa) (bA : Int) (st : (List am) × Int) : Option (((List am) × Int) ⊕ (((List am) × Int))) :=
 let v_l := st.1
 let v_i := st.2
 if (decide (v_i < (v_s.ac.length : Int))) = true then
 (av v_s.ac v_i).bind fun b1 => if (b1.fId != bA) = true then
 (av v_s.ac v_i).bind fun b2 => (aU v_l [b2]).bind fun b3 => let v_l : (List am) := b3
 let v_i : Int := (i64.wrap (v_i + 1))
 some (.inl (v_l, v_i))
 else
 let v_i : Int := (i64.wrap (v_i + 1))
 some (.inl (v_l, v_i))
 else
 some (.inr (v_l, v_i))
def qa (v_s : aa) (bA : Int) : Option (aa) :=
 let v_l : (List am) := []
 let v_i : Int := 0
 (ah (lZ v_s bA) ab (v_l, v_i)).bind fun r4 =>
 let v_l := r4.1
 let v_i := r4.2
 let v_s : aa := { v_s with ac := v_l }
 some v_s
def iL (v_l : (List Int)) (v_n : Int) (st : (List Int) × Int) : Option (((List Int) × Int) ⊕ (((List Int) × Int))) :=
 let al := st.1
 let v_i := st.2
 if (decide (v_i < (v_l.length : Int))) = true then
 (av v_l v_i).bind fun b1 => if (b1 != v_n) = true then
 (av v_l v_i).bind fun b2 => (aU al [b2]).bind fun b3 => let al : (List Int) := b3
 let v_i : Int := (i64.wrap (v_i + 1))
 some (.inl (al, v_i))
 else
 let v_i : Int := (i64.wrap (v_i + 1))
 some (.inl (al, v_i))
 else
 some (.inr (al, v_i))
def je (v_l : (List Int)) (v_n : Int) : Option ((List Int) × Bool) :=
 let al : (List Int) := []
 let v_i : Int := 0
 (ah (iL v_l v_n) ab (al, v_i)).bind fun r4 =>
 let al := r4.1
 let v_i := r4.2
 some (al, (decide ((al.length : Int) < (v_l.length : Int))))
def lW (cj : (List Int)) (st : aa × Int) : Option ((aa × Int) ⊕ ((aa × Int))) :=
 let v_s := st.1
 let v_i := st.2
 if (decide (v_i < (cj.length : Int))) = true then
 (av cj v_i).bind fun b1 => (eL v_s b1).bind fun c2 => let v_c : am := c2.1
 let bS : Bool := c2.2
 if (!bS) = true then
 let v_i : Int := (i64.wrap (v_i + 1))
 some (.inl (v_s, v_i))
 else
 (dV v_s v_c.bC).bind fun c3 => let v_a : aq := c3.1
 if v_c.bB = true then
 (pa v_a).bind fun c4 => let t5 : Int := 1
 let t6 : (List aL) := c4
 let v_a : aq := { v_a with cw := t5 }
 let v_a : aq := { v_a with bE := t6 }
 let t7 : (List Int) := []
 let t8 : (List Int) := []
 let t9 : (List Int) := []
 let t10 : (List Int) := []
 let v_a : aq := { v_a with bM := t7 }
 let v_a : aq := { v_a with dj := t8 }
 let v_a : aq := { v_a with jH := t9 }
 let v_a : aq := { v_a with jP := t10 }
 let t11 : Int := 0
 let t12 : Int := v_s.bW
 let v_a : aq := { v_a with ce := t11 }
 let v_a : aq := { v_a with bL := t12 }
 (eb v_s v_a).bind fun c13 => (sk c13 v_c.bC).bind fun c14 => let v_s : aa := c14.1
 let v_i : Int := (i64.wrap (v_i + 1))
 some (.inl (v_s, v_i))
 else
 (qa v_s v_c.fId).bind fun c15 => let v_s : aa := c15
 let tX : Bool := false
 (je v_a.bM v_c.fId).bind fun c16 => let v_a : aq := { v_a with bM := c16.1 }
 let tX : Bool := c16.2
 (if (!tX) = true then
 (aU ([] : (List Int)) v_a.dj).bind fun b18 => (aU b18 [v_c.fId]).bind fun b19 => let v_a : aq := { v_a with dj := b19 }
 some v_a
 else
 some v_a).bind fun j17 => let v_a := j17
 (eb v_s v_a).bind fun c20 => let v_s : aa := c20
 let v_i : Int := (i64.wrap (v_i + 1))
 some (.inl (v_s, v_i))
 else
 some (.inr (v_s, v_i))
def jg (v_s : aa) (cj : (List Int)) : Option (aa) :=
 let v_i : Int := 0
 (ah (lW cj) ab (v_s, v_i)).bind fun r21 =>
 let v_s := r21.1
 let v_i := r21.2
 some v_s
def jD (v_s : aa) (st : (List Int) × Int) : Option (((List Int) × Int) ⊕ (((List Int) × Int))) :=
 let v_l := st.1
 let v_i := st.2
 if (decide (v_i < (v_s.ai.length : Int))) = true then
 (av v_s.ai v_i).bind fun b1 => (if (b1.cw == 2) = true then (av v_s.ai v_i).bind fun b2 => some (decide ((i64.wrap (v_s.bW - b2.bL)) ≥ 15)) else some false).bind fun q3 => if q3 = true then
 (av v_s.ai v_i).bind fun b4 => (aU v_l [b4.fId]).bind fun b5 => let v_l : (List Int) := b5
 let v_i : Int := (i64.wrap (v_i + 1))
 some (.inl (v_l, v_i))
 else
 let v_i : Int := (i64.wrap (v_i + 1))
 some (.inl (v_l, v_i))
 else
 some (.inr (v_l, v_i))
def p9 (v_s : aa) : Option ((List Int)) :=
 let v_l : (List Int) := []
 let v_i : Int := 0
 (ah (jD v_s) ab (v_l, v_i)).bind fun r6 =>
 let v_l := r6.1
 let v_i := r6.2
 some v_l
def yW (v_n : Int) : Option (Bool) :=
 (if (decide (v_n ≥ 1)) = true then some (decide (v_n ≤ 1073741824)) else some false).bind fun q1 => some q1
def pB (v_a : aL) (rn : Int) : Option (Int) :=
 (if (decide (v_a.bu < 0)) = true then some true else some (decide (v_a.bu > 9))).bind fun q1 => (if q1 = true then some true else some (decide (v_a.aY < 0))).bind fun q2 => (if q2 = true then some true else some (decide (v_a.aY ≥ rn))).bind fun q3 => (if q3 = true then some true else (yW v_a.cC.bD).bind fun c4 => some (!c4)).bind fun q5 => (if q5 = true then some true else (yW v_a.cC.bj).bind fun c6 => some (!c6)).bind fun q7 => (if q7 = true then some true else some (decide (v_a.bG < (-1)))).bind fun q8 => (if q8 = true then some true else some (decide (v_a.bG > 999))).bind fun q9 => (if q9 = true then some true else some (decide (v_a.eR < (-1)))).bind fun q10 => (if q10 = true then some true else some (decide (v_a.eR > 99))).bind fun q11 => (if q11 = true then some true else (if (decide (v_a.bG ≥ 0)) = true then some (decide (v_a.eR < 0)) else some false).bind fun q12 => some q12).bind fun q13 => if q13 = true then
 some 1
 else
 (if (decide (v_a.fX < 0)) = true then some true else some (decide (v_a.fX > 50))).bind fun q14 => if q14 = true then
 some 4
 else
 some 0
def oO (v_l : (List aL)) (v_a : aL) (st : (List aL) × Bool × Int) : Option (((List aL) × Bool × Int) ⊕ (((List aL) × Bool × Int))) :=
 let al := st.1
 let cu := st.2.1
 let v_i := st.2.2
 if (decide (v_i < (v_l.length : Int))) = true then
 (if (!cu) = true then (av v_l v_i).bind fun b1 => some (decide (b1.bu > v_a.bu)) else some false).bind fun q2 => (if q2 = true then
 (aU al [v_a]).bind fun b4 => let al : (List aL) := b4
 let cu : Bool := true
 some (al, cu)
 else
 some (al, cu)).bind fun j3 => let al := j3.1
 let cu := j3.2
 (av v_l v_i).bind fun b5 => if (b5.bu != v_a.bu) = true then
 (av v_l v_i).bind fun b6 => (aU al [b6]).bind fun b7 => let al : (List aL) := b7
 let v_i : Int := (i64.wrap (v_i + 1))
 some (.inl (al, cu, v_i))
 else
 let v_i : Int := (i64.wrap (v_i + 1))
 some (.inl (al, cu, v_i))
 else
 some (.inr (al, cu, v_i))
def FF (v_l : (List aL)) (v_a : aL) : Option ((List aL) × Int) :=
 let al : (List aL) := []
 let cu : Bool := (v_a.fX == 0)
 let v_a : aL := { v_a with gM := 0 }
 let v_i : Int := 0
 (ah (oO v_l v_a) ab (al, cu, v_i)).bind fun r8 =>
 let al := r8.1
 let cu := r8.2.1
 let v_i := r8.2.2
 (if (!cu) = true then
 (aU al [v_a]).bind fun b10 => let al : (List aL) := b10
 some al
 else
 some al).bind fun j9 => let al := j9
 if (decide ((al.length : Int) > 8)) = true then
 some ([], 4)
 else
 some (al, 0)
def oP (v_l : (List aL)) (cH : Int) (st : Int) : Option ((Int) ⊕ ((Int) ⊕ (aL × Bool))) :=
 let v_i := st
 if (decide (v_i < (v_l.length : Int))) = true then
 (av v_l v_i).bind fun b1 => if (b1.bu == cH) = true then
 (av v_l v_i).bind fun b2 => some (.inr (.inr (b2, true)))
 else
 let v_i : Int := (i64.wrap (v_i + 1))
 some (.inl v_i)
 else
 some (.inr (.inl v_i))
def Km (v_l : (List aL)) (cH : Int) : Option (aL × Bool) :=
 let v_i : Int := 0
 (ah (oP v_l cH) ab v_i).bind fun r3 => match r3 with
 | .inr m4 => some m4
 | .inl m4 =>
 let v_i := m4
 some ((⟨0, 0, ax.zero, 0, 0, 0, 0⟩ : aL), false)
def mY (v_l : (List aL)) (cH : Int) (st : Bool × (List aL) × Int) : Option ((Bool × (List aL) × Int) ⊕ ((Bool × (List aL) × Int))) :=
 let bS := st.1
 let al := st.2.1
 let v_i := st.2.2
 if (decide (v_i < (v_l.length : Int))) = true then
 (av v_l v_i).bind fun b1 => let v_a : aL := b1
 if (v_a.bu == cH) = true then
 let bS : Bool := true
 let t2 : Int := (i64.wrap (v_a.fX - 1))
 let t3 : Int := 0
 let v_a : aL := { v_a with fX := t2 }
 let v_a : aL := { v_a with gM := t3 }
 if (decide (v_a.fX ≤ 0)) = true then
 let v_i : Int := (i64.wrap (v_i + 1))
 some (.inl (bS, al, v_i))
 else
 (aU al [v_a]).bind fun b4 => let al : (List aL) := b4
 let v_i : Int := (i64.wrap (v_i + 1))
 some (.inl (bS, al, v_i))
 else
 (aU al [v_a]).bind fun b5 => let al : (List aL) := b5
 let v_i : Int := (i64.wrap (v_i + 1))
 some (.inl (bS, al, v_i))
 else
 some (.inr (bS, al, v_i))
def Dw (v_l : (List aL)) (cH : Int) : Option ((List aL) × Bool) :=
 let al : (List aL) := []
 let bS : Bool := false
 let v_i : Int := 0
 (ah (mY v_l cH) ab (bS, al, v_i)).bind fun r6 =>
 let bS := r6.1
 let al := r6.2.1
 let v_i := r6.2.2
 some (al, bS)
def qP (cH : Int) (st : (List aL) × Int) : Option (((List aL) × Int) ⊕ (((List aL) × Int))) :=
 let al := st.1
 let v_i := st.2
 if (decide (v_i < (al.length : Int))) = true then
 (av al v_i).bind fun b2 => if (b2.bu == cH) = true then
 (av al v_i).bind fun b3 => (av al v_i).bind fun b4 => let al : (List aL) := (List.set al (Int.toNat v_i) ({ b4 with gM := (if 100 < (i64.wrap (b3.gM + 1)) then 100 else (i64.wrap (b3.gM + 1))) }))
 let v_i : Int := (i64.wrap (v_i + 1))
 some (.inl (al, v_i))
 else
 let v_i : Int := (i64.wrap (v_i + 1))
 some (.inl (al, v_i))
 else
 some (.inr (al, v_i))
def Dx (v_l : (List aL)) (cH : Int) : Option ((List aL)) :=
 (aU ([] : (List aL)) v_l).bind fun b1 => let al : (List aL) := b1
 let v_i : Int := 0
 (ah (qP cH) ab (al, v_i)).bind fun r5 =>
 let al := r5.1
 let v_i := r5.2
 some al
def jo (v_l : (List aL)) (af : Int) (st : ax × Int) : Option ((ax × Int) ⊕ ((ax × Int))) :=
 let v_v := st.1
 let v_i := st.2
 if (decide (v_i < (v_l.length : Int))) = true then
 (av v_l v_i).bind fun b1 => if (b1.aY == af) = true then
 (av v_l v_i).bind fun b2 => (av v_l v_i).bind fun b3 => (av v_l v_i).bind fun b4 => (av v_l v_i).bind fun b5 => (dc v_v (⟨(i64.wrap (b2.cC.bD * b3.fX)), (i64.wrap (b4.cC.bj * b5.fX))⟩ : ax)).bind fun c6 => let v_v : ax := c6
 let v_i : Int := (i64.wrap (v_i + 1))
 some (.inl (v_v, v_i))
 else
 let v_i : Int := (i64.wrap (v_i + 1))
 some (.inl (v_v, v_i))
 else
 some (.inr (v_v, v_i))
def kw (v_l : (List aL)) (af : Int) : Option (ax) :=
 let v_v : ax := (⟨0, 0⟩ : ax)
 let v_i : Int := 0
 (ah (jo v_l af) ab (v_v, v_i)).bind fun r7 =>
 let v_v := r7.1
 let v_i := r7.2
 some v_v
def kg (iP : (List ByteArray)) (au : ByteArray) (st : Int) : Option ((Int) ⊕ ((Int) ⊕ (Bool))) :=
 let v_i := st
 if (decide (v_i < (iP.length : Int))) = true then
 (av iP v_i).bind fun b2 => if (b2.toList == au.toList) = true then
 some (.inr (.inr true))
 else
 let v_i : Int := (i64.wrap (v_i + 1))
 some (.inl v_i)
 else
 some (.inr (.inl v_i))
def mQ (wU : ByteArray) (au : ByteArray) : Option (Bool) :=
 (y6 wU).bind fun c1 => let iP : (List ByteArray) := c1
 let v_i : Int := 0
 (ah (kg iP au) ab v_i).bind fun r3 => match r3 with
 | .inr m4 => some m4
 | .inl m4 =>
 let v_i := m4
 some false
def lR (v_s : aa) (af : Int) (au : ByteArray) (yh : Bool) (mj : Int) (st : ax × Int) : Option ((ax × Int) ⊕ ((ax × Int))) :=
 let v_v := st.1
 let v_i := st.2
 if (decide (v_i < (v_s.ac.length : Int))) = true then
 (av v_s.ac v_i).bind fun b1 => (dV v_s b1.bC).bind fun c2 => let v_a : aq := c2.1
 let bS : Bool := c2.2
 (if bS = true then (av v_s.ac v_i).bind fun b3 => some (b3.aY == af) else some false).bind fun q4 => (if q4 = true then (mQ v_a.bF au).bind fun c5 => some c5 else some false).bind fun q6 => (if q6 = true then (if yh = true then some true else some (v_a.cW == mj)).bind fun q7 => some q7 else some false).bind fun q8 => if q8 = true then
 (av v_s.ac v_i).bind fun b9 => (dc v_v b9.cC).bind fun c10 => let v_v : ax := c10
 let v_i : Int := (i64.wrap (v_i + 1))
 some (.inl (v_v, v_i))
 else
 let v_i : Int := (i64.wrap (v_i + 1))
 some (.inl (v_v, v_i))
 else
 some (.inr (v_v, v_i))
def u6 (v_s : aa) (au : ByteArray) (af : Int) (yh : Bool) (mj : Int) : Option (ax) :=
 let v_v : ax := (⟨0, 0⟩ : ax)
 let v_i : Int := 0
 (ah (lR v_s af au yh mj) ab (v_v, v_i)).bind fun r11 =>
 let v_v := r11.1
 let v_i := r11.2
 some v_v
def eG (v_s : aa) (au : ByteArray) (af : Int) : Option (ax) :=
 (u6 v_s au af true 0).bind fun c1 => some c1
def oV (v_s : aa) (au : ByteArray) (af : Int) (mj : Int) : Option (ax) :=
 (u6 v_s au af false mj).bind fun c1 => some c1
def iK (v_s : aa) (af : Int) (au : ByteArray) (st : ax × Int) : Option ((ax × Int) ⊕ ((ax × Int))) :=
 let v_v := st.1
 let v_i := st.2
 if (decide (v_i < (v_s.ai.length : Int))) = true then
 (av v_s.ai v_i).bind fun b1 => (cX b1).bind fun c2 => (if c2 = true then (av v_s.ai v_i).bind fun b3 => (mQ b3.bF au).bind fun c4 => some c4 else some false).bind fun q5 => if q5 = true then
 (av v_s.ai v_i).bind fun b6 => (kw b6.bE af).bind fun c7 => (dc v_v c7).bind fun c8 => let v_v : ax := c8
 let v_i : Int := (i64.wrap (v_i + 1))
 some (.inl (v_v, v_i))
 else
 let v_i : Int := (i64.wrap (v_i + 1))
 some (.inl (v_v, v_i))
 else
 some (.inr (v_v, v_i))
def nR (v_s : aa) (au : ByteArray) (af : Int) : Option (ax) :=
 let v_v : ax := (⟨0, 0⟩ : ax)
 let v_i : Int := 0
 (ah (iK v_s af au) ab (v_v, v_i)).bind fun r9 =>
 let v_v := r9.1
 let v_i := r9.2
 some v_v
def lS (iP : (List ByteArray)) (v_s : aa) (af : Int) (su : ax) (st : Int) : Option ((Int) ⊕ ((Int) ⊕ (Bool))) :=
 let v_i := st
 if (decide (v_i < (iP.length : Int))) = true then
 (av iP v_i).bind fun b2 => (eG v_s b2 af).bind fun c3 => (dc c3 su).bind fun c4 => let v_v : ax := c4
 (av iP v_i).bind fun b5 => (vG v_s b5 af).bind fun c6 => (fL v_v c6).bind fun c7 => if (!c7) = true then
 some (.inr (.inr false))
 else
 (av iP v_i).bind fun b8 => (if (b8.toList == (⟨#[114, 111, 111, 116]⟩ : ByteArray).toList) = true then (iY v_s af).bind fun c9 => (tb v_s af).bind fun c10 => (vK c9 c10).bind fun c11 => (fL v_v c11).bind fun c12 => some (!c12) else some false).bind fun q13 => if q13 = true then
 some (.inr (.inr false))
 else
 let v_i : Int := (i64.wrap (v_i + 1))
 some (.inl v_i)
 else
 some (.inr (.inl v_i))
def u7 (v_s : aa) (au : ByteArray) (af : Int) (su : ax) : Option (Bool) :=
 (y6 au).bind fun c1 => let iP : (List ByteArray) := c1
 let v_i : Int := 0
 (ah (lS iP v_s af su) ab v_i).bind fun r14 => match r14 with
 | .inr m15 => some m15
 | .inl m15 =>
 let v_i := m15
 some true
def vT (v_s : aa) (v_a : ByteArray) (v_b : ByteArray) (af : Int) : Option (Bool) :=
 (eG v_s v_a af).bind fun c1 => (lq v_s v_a af).bind fun c2 => (eG v_s v_b af).bind fun c3 => (lq v_s v_b af).bind fun c4 => (zk c1 c2 c3 c4).bind fun c5 => let v_o : Int := c5
 (if (decide (v_o < 0)) = true then some true else (if (v_o == 0) = true then some (Op.bytesLess v_a.toList v_b.toList) else some false).bind fun q6 => some q6).bind fun q7 => some q7
def jc (al : (List ByteArray)) (v_s : aa) (v_i : Int) (v_l : (List ByteArray)) (af : Int) (st : Int) : Option ((Int) ⊕ ((Int))) :=
 let v_k := st
 (if (decide (v_k < (al.length : Int))) = true then (av v_l v_i).bind fun b2 => (av al v_k).bind fun b3 => (vT v_s b2 b3 af).bind fun c4 => some (!c4) else some false).bind fun q5 => if q5 = true then
 let v_k : Int := (i64.wrap (v_k + 1))
 some (.inl v_k)
 else
 some (.inr v_k)
def lN (v_l : (List ByteArray)) (v_s : aa) (af : Int) (st : (List ByteArray) × Int) : Option (((List ByteArray) × Int) ⊕ (((List ByteArray) × Int))) :=
 let al := st.1
 let v_i := st.2
 if (decide (v_i < (v_l.length : Int))) = true then
 let v_k : Int := 0
 (ah (jc al v_s v_i v_l af) ab v_k).bind fun r6 =>
 let v_k := r6
 (hiO al v_k).bind fun b7 => (aU ([] : (List ByteArray)) b7).bind fun b8 => let v_x : (List ByteArray) := b8
 (av v_l v_i).bind fun b9 => (aU v_x [b9]).bind fun b10 => let v_x : (List ByteArray) := b10
 (loO al v_k).bind fun b11 => (aU v_x b11).bind fun b12 => let al : (List ByteArray) := b12
 let v_i : Int := (i64.wrap (v_i + 1))
 some (.inl (al, v_i))
 else
 some (.inr (al, v_i))
def zT (v_s : aa) (au : ByteArray) (af : Int) : Option ((List ByteArray)) :=
 (ff v_s.bN au).bind fun c1 => let v_l : (List ByteArray) := c1
 let al : (List ByteArray) := []
 let v_i : Int := 0
 (ah (lN v_l v_s af) ab (al, v_i)).bind fun r13 =>
 let al := r13.1
 let v_i := r13.2
 some al
def jA (self : (aa → ByteArray → Int → Option ((List ByteArray)))) (v_l : (List ByteArray)) (v_s : aa) (af : Int) (st : (List ByteArray) × Int) : Option (((List ByteArray) × Int) ⊕ (((List ByteArray) × Int))) :=
 let al := st.1
 let v_i := st.2
 if (decide (v_i < (v_l.length : Int))) = true then
 (av v_l v_i).bind fun b2 => (self v_s b2 af).bind fun c3 => (aU al c3).bind fun b4 => let al : (List ByteArray) := b4
 let v_i : Int := (i64.wrap (v_i + 1))
 some (.inl (al, v_i))
 else
 some (.inr (al, v_i))
def jb : Nat → aa → ByteArray → Int → Option ((List ByteArray))
 | 0 => fun _ _ _ => none
 | fuel + 1 => fun v_s au af =>
 let self := jb fuel
 (zT v_s au af).bind fun c1 => let v_l : (List ByteArray) := c1
 if ((v_l.length : Int) == 0) = true then
 some ([au] : (List ByteArray))
 else
 let al : (List ByteArray) := []
 let v_i : Int := 0
 (ah (jA self v_l v_s af) ab (al, v_i)).bind fun r5 =>
 let al := r5.1
 let v_i := r5.2
 some al
def tm (v_s : aa) (af : Int) : Option ((List ByteArray)) :=
 (jb ab v_s (⟨#[114, 111, 111, 116]⟩ : ByteArray) af).bind fun c1 => some c1
def jd (al : (List aq)) (v_a : aq) (st : Int) : Option ((Int) ⊕ ((Int))) :=
 let v_k := st
 (if (decide (v_k < (al.length : Int))) = true then (av al v_k).bind fun b4 => some (decide (b4.bu ≥ v_a.bu)) else some false).bind fun q5 => if q5 = true then
 let v_k : Int := (i64.wrap (v_k + 1))
 some (.inl v_k)
 else
 some (.inr v_k)
def lQ (v_s : aa) (oA : ByteArray) (st : (List aq) × Int) : Option (((List aq) × Int) ⊕ (((List aq) × Int))) :=
 let al := st.1
 let v_i := st.2
 if (decide (v_i < (v_s.ai.length : Int))) = true then
 (av v_s.ai v_i).bind fun b1 => let v_a : aq := b1
 (cX v_a).bind fun c2 => (if (!c2) = true then some true else some (!(v_a.bF.toList == oA.toList))).bind fun q3 => if q3 = true then
 let v_i : Int := (i64.wrap (v_i + 1))
 some (.inl (al, v_i))
 else
 let v_k : Int := 0
 (ah (jd al v_a) ab v_k).bind fun r6 =>
 let v_k := r6
 (hiO al v_k).bind fun b7 => (aU ([] : (List aq)) b7).bind fun b8 => let v_x : (List aq) := b8
 (aU v_x [v_a]).bind fun b9 => let v_x : (List aq) := b9
 (loO al v_k).bind fun b10 => (aU v_x b10).bind fun b11 => let al : (List aq) := b11
 let v_i : Int := (i64.wrap (v_i + 1))
 some (.inl (al, v_i))
 else
 some (.inr (al, v_i))
def lO (al : (List aq)) (st : (List Int) × Int) : Option (((List Int) × Int) ⊕ (((List Int) × Int))) :=
 let v_l := st.1
 let aI := st.2
 if (decide (aI < (al.length : Int))) = true then
 (av al aI).bind fun b13 => (aU v_l [b13.fId]).bind fun b14 => let v_l : (List Int) := b14
 let aI : Int := (i64.wrap (aI + 1))
 some (.inl (v_l, aI))
 else
 some (.inr (v_l, aI))
def zW (v_s : aa) (oA : ByteArray) : Option ((List Int)) :=
 let al : (List aq) := []
 let v_i : Int := 0
 (ah (lQ v_s oA) ab (al, v_i)).bind fun r12 =>
 let al := r12.1
 let v_i := r12.2
 let v_l : (List Int) := []
 let aI : Int := 0
 (ah (lO al) ab (v_l, aI)).bind fun r15 =>
 let v_l := r15.1
 let aI := r15.2
 some v_l
def mP (v_a : aL) (v_n : aX) : Option (Int) :=
 (if (!v_n.fUp) = true then some true else some (v_n.aY != v_a.aY)).bind fun q1 => if q1 = true then
 some 4
 else
 (if (v_a.eR == (-1)) = true then some true else some (v_a.bG == v_n.fId)).bind fun q2 => (if q2 = true then some true else (if (v_a.bG == (-1)) = true then some (v_a.eR == v_n.eR) else some false).bind fun q3 => some q3).bind fun q4 => if q4 = true then
 some 1
 else
 if (v_a.eR == v_n.eR) = true then
 some 2
 else
 some 3
def tj (v_a : aL) (v_n : aX) : Option (Bool) :=
 (mP v_a v_n).bind fun c1 => if (c1 == 1) = true then
 some true
 else
 if (c1 == 2) = true then
 some (decide (v_a.gM ≥ 2))
 else
 if (c1 == 3) = true then
 some (decide (v_a.gM ≥ 4))
 else
 some false
def na (v_s : aa) (bA : Int) (st : Int) : Option ((Int) ⊕ ((Int) ⊕ (aX × Bool))) :=
 let v_i := st
 if (decide (v_i < (v_s.aB.length : Int))) = true then
 (av v_s.aB v_i).bind fun b1 => if (b1.fId == bA) = true then
 (av v_s.aB v_i).bind fun b2 => some (.inr (.inr (b2, true)))
 else
 let v_i : Int := (i64.wrap (v_i + 1))
 some (.inl v_i)
 else
 some (.inr (.inl v_i))
def nc (v_s : aa) (bA : Int) : Option (aX × Bool) :=
 let v_i : Int := 0
 (ah (na v_s bA) ab v_i).bind fun r3 => match r3 with
 | .inr m4 => some m4
 | .inl m4 =>
 let v_i := m4
 some ((⟨0, 0, 0, ax.zero, 0, 0, false⟩ : aX), false)
def yX (v_n : Int) : Option (Bool) :=
 (if (decide (v_n ≥ 0)) = true then some (decide (v_n ≤ 1073741824)) else some false).bind fun q1 => some q1
def oQ (v_s : aa) (v_n : aX) (st : Int) : Option ((Int) ⊕ ((Int))) :=
 let v_k := st
 (if (decide (v_k < (v_s.aB.length : Int))) = true then (av v_s.aB v_k).bind fun b1 => some (decide (b1.fId < v_n.fId)) else some false).bind fun q2 => if q2 = true then
 let v_k : Int := (i64.wrap (v_k + 1))
 some (.inl v_k)
 else
 some (.inr v_k)
def Br (v_s : aa) (v_n : aX) : Option (aa) :=
 let v_k : Int := 0
 (ah (oQ v_s v_n) ab v_k).bind fun r3 =>
 let v_k := r3
 (hiO v_s.aB v_k).bind fun b4 => (aU ([] : (List aX)) b4).bind fun b5 => let v_l : (List aX) := b5
 (aU v_l [v_n]).bind fun b6 => let v_l : (List aX) := b6
 (if (decide (v_k < (v_s.aB.length : Int))) = true then (av v_s.aB v_k).bind fun b7 => some (b7.fId == v_n.fId) else some false).bind fun q8 => (if q8 = true then
 let v_k : Int := (i64.wrap (v_k + 1))
 some v_k
 else
 some v_k).bind fun j9 => let v_k := j9
 (loO v_s.aB v_k).bind fun b10 => (aU v_l b10).bind fun b11 => let v_s : aa := { v_s with aB := b11 }
 some v_s
def qG (v_s : aa) (v_n : aX) : Option (aa × Int) :=
 (if (decide (v_n.fId < 0)) = true then some true else some (decide (v_n.fId > 999))).bind fun q1 => (if q1 = true then some true else some (decide (v_n.aY < 0))).bind fun q2 => (if q2 = true then some true else some (decide (v_n.aY ≥ (v_s.bN.ak.length : Int)))).bind fun q3 => (if q3 = true then some true else some (decide (v_n.eR < 0))).bind fun q4 => (if q4 = true then some true else some (decide (v_n.eR > 99))).bind fun q5 => (if q5 = true then some true else (yX v_n.kJ.bD).bind fun c6 => some (!c6)).bind fun q7 => (if q7 = true then some true else (yX v_n.kJ.bj).bind fun c8 => some (!c8)).bind fun q9 => if q9 = true then
 some (v_s, 1)
 else
 (nc v_s v_n.fId).bind fun c10 => let v_x : aX := c10.1
 let bS : Bool := c10.2
 (if bS = true then some v_x.fUp else some false).bind fun q11 => if q11 = true then
 some (v_s, 7)
 else
 (if (!bS) = true then some (decide ((v_s.aB.length : Int) ≥ 12)) else some false).bind fun q12 => if q12 = true then
 some (v_s, 4)
 else
 (Br v_s (⟨v_n.fId, v_n.aY, v_n.eR, v_n.kJ, v_s.bW, 0, true⟩ : aX)).bind fun c13 => some (c13, 0)
def DA (v_s : aa) (bA : Int) (Ja : Int) : Option (aa × Int) :=
 (nc v_s bA).bind fun c1 => let v_n : aX := c1.1
 let bS : Bool := c1.2
 if (!bS) = true then
 some (v_s, 2)
 else
 if (!v_n.fUp) = true then
 some (v_s, 18)
 else
 if (decide (Ja < 0)) = true then
 some (v_s, 15)
 else
 if (decide (Ja < v_n.ce)) = true then
 some (v_s, 15)
 else
 if (decide ((i64.wrap (Ja - v_n.ce)) > 1)) = true then
 some (v_s, 1)
 else
 let t2 : Int := v_s.bW
 let t3 : Int := Ja
 let v_n : aX := { v_n with bL := t2 }
 let v_n : aX := { v_n with ce := t3 }
 (Br v_s v_n).bind fun c4 => some (c4, 0)
def yZ (v_s : aa) (bA : Int) : Option (aa) :=
 (nc v_s bA).bind fun c1 => let v_n : aX := c1.1
 let bS : Bool := c1.2
 if (!bS) = true then
 some v_s
 else
 let v_n : aX := { v_n with fUp := false }
 (Br v_s v_n).bind fun c2 => some c2
def mZ (v_s : aa) (bA : Int) (st : ax × Int) : Option ((ax × Int) ⊕ ((ax × Int))) :=
 let v_v := st.1
 let v_i := st.2
 if (decide (v_i < (v_s.ac.length : Int))) = true then
 (av v_s.ac v_i).bind fun b1 => if (b1.bG == bA) = true then
 (av v_s.ac v_i).bind fun b2 => (dc v_v b2.cC).bind fun c3 => let v_v : ax := c3
 let v_i : Int := (i64.wrap (v_i + 1))
 some (.inl (v_v, v_i))
 else
 let v_i : Int := (i64.wrap (v_i + 1))
 some (.inl (v_v, v_i))
 else
 some (.inr (v_v, v_i))
def Dy (v_s : aa) (bA : Int) : Option (ax) :=
 let v_v : ax := (⟨0, 0⟩ : ax)
 let v_i : Int := 0
 (ah (mZ v_s bA) ab (v_v, v_i)).bind fun r4 =>
 let v_v := r4.1
 let v_i := r4.2
 some v_v
def yY (v_s : aa) (bA : Int) : Option (ax) :=
 (nc v_s bA).bind fun c1 => let v_n : aX := c1.1
 let bS : Bool := c1.2
 (if (!bS) = true then some true else some (!v_n.fUp)).bind fun q2 => if q2 = true then
 some (⟨0, 0⟩ : ax)
 else
 (Dy v_s bA).bind fun c3 => (vK v_n.kJ c3).bind fun c4 => some c4
def jU (v_s : aa) (st : (List Int) × Int) : Option (((List Int) × Int) ⊕ (((List Int) × Int))) :=
 let v_l := st.1
 let v_i := st.2
 if (decide (v_i < (v_s.aB.length : Int))) = true then
 (av v_s.aB v_i).bind fun b1 => (if b1.fUp = true then (av v_s.aB v_i).bind fun b2 => some (decide ((i64.wrap (v_s.bW - b2.bL)) ≥ 10)) else some false).bind fun q3 => if q3 = true then
 (av v_s.aB v_i).bind fun b4 => (aU v_l [b4.fId]).bind fun b5 => let v_l : (List Int) := b5
 let v_i : Int := (i64.wrap (v_i + 1))
 some (.inl (v_l, v_i))
 else
 let v_i : Int := (i64.wrap (v_i + 1))
 some (.inl (v_l, v_i))
 else
 some (.inr (v_l, v_i))
def vF (v_s : aa) : Option ((List Int)) :=
 let v_l : (List Int) := []
 let v_i : Int := 0
 (ah (jU v_s) ab (v_l, v_i)).bind fun r6 =>
 let v_l := r6.1
 let v_i := r6.2
 some v_l
def zO (v_s : aa) (wU : ByteArray) (v_a : aL) : Option (Bool) :=
 (eG v_s wU v_a.aY).bind fun c1 => (dc c1 v_a.cC).bind fun c2 => (lq v_s wU v_a.aY).bind fun c3 => (fL c2 c3).bind fun c4 => some c4
def u5 (v_s : aa) (wU : ByteArray) (af : Int) (mj : Int) : Option (Bool) :=
 (oV v_s wU af mj).bind fun c1 => (DB v_s wU af).bind fun c2 => (fL c1 c2).bind fun c3 => some c3
def ik (v_s : aa) (v_c : am) (st : Int) : Option ((Int) ⊕ ((Int))) :=
 let v_k := st
 (if (decide (v_k < (v_s.ac.length : Int))) = true then (av v_s.ac v_k).bind fun b9 => some (decide (b9.fId < v_c.fId)) else some false).bind fun q10 => if q10 = true then
 let v_k : Int := (i64.wrap (v_k + 1))
 some (.inl v_k)
 else
 some (.inr v_k)
def mO (v_s : aa) (v_n : aX) (v_a : aq) (v_x : aL) : Option (aa × am) :=
 let v_s : aa := { v_s with rM := (i64.wrap (v_s.rM + 1)) }
 let v_c : am := (⟨(i64.wrap ((i64.wrap (v_s.pw * 2 ^ (min (Int.toNat 20) (IntKind.i64.bits)))) + v_s.rM)), v_a.fId, v_n.fId, v_x.cC, v_x.bu, v_n.aY, (v_a.cw == 1), 0⟩ : am)
 (Dw v_a.bE v_x.bu).bind fun c1 => let v_a : aq := { v_a with bE := c1.1 }
 (if v_c.bB = true then
 let t3 : Int := 2
 let t4 : (List aL) := []
 let t5 : Int := v_s.bW
 let t6 : Int := 0
 let v_a : aq := { v_a with cw := t3 }
 let v_a : aq := { v_a with bE := t4 }
 let v_a : aq := { v_a with bL := t5 }
 let v_a : aq := { v_a with ce := t6 }
 some v_a
 else
 (aU ([] : (List Int)) v_a.bM).bind fun b7 => (aU b7 [v_c.fId]).bind fun b8 => let v_a : aq := { v_a with bM := b8 }
 some v_a).bind fun j2 => let v_a := j2
 let v_k : Int := 0
 (ah (ik v_s v_c) ab v_k).bind fun r11 =>
 let v_k := r11
 (hiO v_s.ac v_k).bind fun b12 => (aU ([] : (List am)) b12).bind fun b13 => let v_l : (List am) := b13
 (aU v_l [v_c]).bind fun b14 => let v_l : (List am) := b14
 (loO v_s.ac v_k).bind fun b15 => (aU v_l b15).bind fun b16 => let v_s : aa := { v_s with ac := b16 }
 (eb v_s v_a).bind fun c17 => some (c17, v_c)
def jz (v_s : aa) (ct : Int) (st : (List bt) × Int) : Option (((List bt) × Int) ⊕ (((List bt) × Int))) :=
 let v_l := st.1
 let v_i := st.2
 if (decide (v_i < (v_s.aQ.length : Int))) = true then
 (av v_s.aQ v_i).bind fun b1 => if (b1.bG != ct) = true then
 (av v_s.aQ v_i).bind fun b2 => (aU v_l [b2]).bind fun b3 => let v_l : (List bt) := b3
 let v_i : Int := (i64.wrap (v_i + 1))
 some (.inl (v_l, v_i))
 else
 let v_i : Int := (i64.wrap (v_i + 1))
 some (.inl (v_l, v_i))
 else
 some (.inr (v_l, v_i))
def fF (v_s : aa) (ct : Int) : Option (aa) :=
 let v_l : (List bt) := []
 let v_i : Int := 0
 (ah (jz v_s ct) ab (v_l, v_i)).bind fun r4 =>
 let v_l := r4.1
 let v_i := r4.2
 let v_s : aa := { v_s with aQ := v_l }
 some v_s
def lL (v_s : aa) (ct : Int) (st : Int) : Option ((Int) ⊕ ((Int) ⊕ (bt × Bool))) :=
 let v_i := st
 if (decide (v_i < (v_s.aQ.length : Int))) = true then
 (av v_s.aQ v_i).bind fun b1 => if (b1.bG == ct) = true then
 (av v_s.aQ v_i).bind fun b2 => some (.inr (.inr (b2, true)))
 else
 let v_i : Int := (i64.wrap (v_i + 1))
 some (.inl v_i)
 else
 some (.inr (.inl v_i))
def zL (v_s : aa) (ct : Int) : Option (bt × Bool) :=
 let v_i : Int := 0
 (ah (lL v_s ct) ab v_i).bind fun r3 => match r3 with
 | .inr m4 => some m4
 | .inl m4 =>
 let v_i := m4
 some ((⟨0, 0, 0⟩ : bt), false)
def ke (v_s : aa) (eW : Int) (cH : Int) (st : Int) : Option ((Int) ⊕ ((Int) ⊕ (Bool))) :=
 let v_i := st
 if (decide (v_i < (v_s.aQ.length : Int))) = true then
 (av v_s.aQ v_i).bind fun b1 => (if (b1.bC == eW) = true then (av v_s.aQ v_i).bind fun b2 => some (b2.bu == cH) else some false).bind fun q3 => if q3 = true then
 some (.inr (.inr true))
 else
 let v_i : Int := (i64.wrap (v_i + 1))
 some (.inl v_i)
 else
 some (.inr (.inl v_i))
def vQ (v_s : aa) (eW : Int) (cH : Int) : Option (Bool) :=
 let v_i : Int := 0
 (ah (ke v_s eW cH) ab v_i).bind fun r4 => match r4 with
 | .inr m5 => some m5
 | .inl m5 =>
 let v_i := m5
 some false
def lM (v_s : aa) (v_x : bt) (st : Int) : Option ((Int) ⊕ ((Int))) :=
 let v_k := st
 (if (decide (v_k < (v_s.aQ.length : Int))) = true then (av v_s.aQ v_k).bind fun b1 => some (decide (b1.bG < v_x.bG)) else some false).bind fun q2 => if q2 = true then
 let v_k : Int := (i64.wrap (v_k + 1))
 some (.inl v_k)
 else
 some (.inr v_k)
def si (v_s : aa) (v_x : bt) : Option (aa) :=
 let v_k : Int := 0
 (ah (lM v_s v_x) ab v_k).bind fun r3 =>
 let v_k := r3
 (hiO v_s.aQ v_k).bind fun b4 => (aU ([] : (List bt)) b4).bind fun b5 => let v_l : (List bt) := b5
 (aU v_l [v_x]).bind fun b6 => let v_l : (List bt) := b6
 (loO v_s.aQ v_k).bind fun b7 => (aU v_l b7).bind fun b8 => let v_s : aa := { v_s with aQ := b8 }
 some v_s
def sg (v_s : aa) (v_n : aX) (v_x : bt) : Option (aa × Int × am × Bool) :=
 (dV v_s v_x.bC).bind fun c1 => let v_a : aq := c1.1
 let bS : Bool := c1.2
 (Km v_a.bE v_x.bu).bind fun c2 => let v_k : aL := c2.1
 let yg : Bool := c2.2
 (if (!bS) = true then some true else (cX v_a).bind fun c3 => some (!c3)).bind fun q4 => (if q4 = true then some true else some (!yg)).bind fun q5 => (if q5 = true then some true else (tj v_k v_n).bind fun c6 => some (!c6)).bind fun q7 => (if q7 = true then some true else (fL v_k.cC v_n.kJ).bind fun c8 => some (!c8)).bind fun q9 => (if q9 = true then some true else (zO v_s v_a.bF v_k).bind fun c10 => some (!c10)).bind fun q11 => (if q11 = true then some true else (u5 v_s v_a.bF v_n.aY v_a.cW).bind fun c12 => some (!c12)).bind fun q13 => if q13 = true then
 (fF v_s v_n.fId).bind fun c14 => some (c14, 0, (⟨0, 0, 0, ax.zero, 0, 0, false, 0⟩ : am), false)
 else
 (yY v_s v_n.fId).bind fun c15 => (fL v_k.cC c15).bind fun c16 => (if (!c16) = true then some true else (u7 v_s v_a.bF v_n.aY v_k.cC).bind fun c17 => some (!c17)).bind fun q18 => if q18 = true then
 some (v_s, 3, (⟨0, 0, 0, ax.zero, 0, 0, false, 0⟩ : am), true)
 else
 (fF v_s v_n.fId).bind fun c19 => (mO c19 v_n v_a v_k).bind fun c20 => let v_t : aa := c20.1
 let v_c : am := c20.2
 some (v_t, 1, v_c, true)
def vR (v_s : aa) (v_n : aX) (v_a : aq) (v_x : aL) (kS : Bool) : Option (aa × Int × am) :=
 (zO v_s v_a.bF v_x).bind fun c1 => let bS : Bool := c1
 (mP v_x v_n).bind fun c2 => (if (c2 == 4) = true then some true else (fL v_x.cC v_n.kJ).bind fun c3 => some (!c3)).bind fun q4 => (if q4 = true then some true else (if kS = true then some (!bS) else some false).bind fun q5 => some q5).bind fun q6 => if q6 = true then
 some (v_s, 0, (⟨0, 0, 0, ax.zero, 0, 0, false, 0⟩ : am))
 else
 (tj v_x v_n).bind fun c7 => if (!c7) = true then
 (if (kS == bS) = true then
 (Dx v_a.bE v_x.bu).bind fun c9 => let v_a : aq := { v_a with bE := c9 }
 (eb v_s v_a).bind fun c10 => let v_s : aa := c10
 some (v_a, v_s)
 else
 some (v_a, v_s)).bind fun j8 => let v_a := j8.1
 let v_s := j8.2
 some (v_s, 0, (⟨0, 0, 0, ax.zero, 0, 0, false, 0⟩ : am))
 else
 (u7 v_s v_a.bF v_n.aY v_x.cC).bind fun c11 => if (!c11) = true then
 some (v_s, 0, (⟨0, 0, 0, ax.zero, 0, 0, false, 0⟩ : am))
 else
 (yY v_s v_n.fId).bind fun c12 => (fL v_x.cC c12).bind fun c13 => if c13 = true then
 (mO v_s v_n v_a v_x).bind fun c14 => let v_t : aa := c14.1
 let v_c : am := c14.2
 some (v_t, 1, v_c)
 else
 (if kS = true then (vQ v_s v_a.fId v_x.bu).bind fun c15 => some (!c15) else some false).bind fun q16 => if q16 = true then
 (si v_s (⟨v_n.fId, v_a.fId, v_x.bu⟩ : bt)).bind fun c17 => some (c17, 2, (⟨0, 0, 0, ax.zero, 0, 0, false, 0⟩ : am))
 else
 some (v_s, 0, (⟨0, 0, 0, ax.zero, 0, 0, false, 0⟩ : am))
def ic (v_a : aq) (v_j : Int) (cj : (List Int)) (v_n : aX) (kS : Bool) (st : aa × Int) : Option ((aa × Int) ⊕ ((aa × Int) ⊕ (aa × Int × am))) :=
 let v_s := st.1
 let v_k := st.2
 if (decide (v_k < (v_a.bE.length : Int))) = true then
 (av cj v_j).bind fun b8 => (dV v_s b8).bind fun c9 => let v_b : aq := c9.1
 (av v_a.bE v_k).bind fun b10 => (vR v_s v_n v_b b10 kS).bind fun c11 => let v_t : aa := c11.1
 let Ax : Int := c11.2.1
 let v_c : am := c11.2.2
 let v_s : aa := v_t
 if (Ax != 0) = true then
 some (.inr (.inr (v_s, Ax, v_c)))
 else
 let v_k : Int := (i64.wrap (v_k + 1))
 some (.inl (v_s, v_k))
 else
 some (.inr (.inl (v_s, v_k)))
def ig (cj : (List Int)) (v_i : Int) (jL : (List ByteArray)) (v_n : aX) (kS : Bool) (st : aa × Int) : Option ((aa × Int) ⊕ ((aa × Int) ⊕ (aa × Int × am))) :=
 let v_s := st.1
 let v_j := st.2
 if (decide (v_j < (cj.length : Int))) = true then
 (av cj v_j).bind fun b4 => (dV v_s b4).bind fun c5 => let v_a : aq := c5.1
 (av jL v_i).bind fun b6 => (u5 v_s b6 v_n.aY v_a.cW).bind fun c7 => if (!c7) = true then
 let v_j : Int := (i64.wrap (v_j + 1))
 some (.inl (v_s, v_j))
 else
 let v_k : Int := 0
 (ah (ic v_a v_j cj v_n kS) ab (v_s, v_k)).bind fun r12 => match r12 with
 | .inr m13 => some (.inr (.inr m13))
 | .inl m13 =>
 let v_s := m13.1
 let v_k := m13.2
 let v_j : Int := (i64.wrap (v_j + 1))
 some (.inl (v_s, v_j))
 else
 some (.inr (.inl (v_s, v_j)))
def ij (jL : (List ByteArray)) (v_n : aX) (kS : Bool) (st : aa × Int) : Option ((aa × Int) ⊕ ((aa × Int) ⊕ (aa × Int × am))) :=
 let v_s := st.1
 let v_i := st.2
 if (decide (v_i < (jL.length : Int))) = true then
 (av jL v_i).bind fun b2 => (zW v_s b2).bind fun c3 => let cj : (List Int) := c3
 let v_j : Int := 0
 (ah (ig cj v_i jL v_n kS) ab (v_s, v_j)).bind fun r14 => match r14 with
 | .inr m15 => some (.inr (.inr m15))
 | .inl m15 =>
 let v_s := m15.1
 let v_j := m15.2
 let v_i : Int := (i64.wrap (v_i + 1))
 some (.inl (v_s, v_i))
 else
 some (.inr (.inl (v_s, v_i)))
def eh (v_s : aa) (v_n : aX) (kS : Bool) : Option (aa × Int × am) :=
 (tm v_s v_n.aY).bind fun c1 => let jL : (List ByteArray) := c1
 let v_i : Int := 0
 (ah (ij jL v_n kS) ab (v_s, v_i)).bind fun r16 => match r16 with
 | .inr m17 => some m17
 | .inl m17 =>
 let v_s := m17.1
 let v_i := m17.2
 some (v_s, 0, (⟨0, 0, 0, ax.zero, 0, 0, false, 0⟩ : am))
def vS (v_s : aa) (ct : Int) : Option (aa × Int × am) :=
 (nc v_s ct).bind fun c1 => let v_n : aX := c1.1
 let bS : Bool := c1.2
 (if (!bS) = true then some true else some (!v_n.fUp)).bind fun q2 => (if q2 = true then some true else some (decide ((v_s.ac.length : Int) ≥ 200))).bind fun q3 => (if q3 = true then some true else some (decide (v_s.rM ≥ 1048575))).bind fun q4 => if q4 = true then
 some (v_s, 0, (⟨0, 0, 0, ax.zero, 0, 0, false, 0⟩ : am))
 else
 (zL v_s ct).bind fun c5 => let v_x : bt := c5.1
 let Y5 : Bool := c5.2
 if Y5 = true then
 (sg v_s v_n v_x).bind fun c6 => let v_t : aa := c6.1
 let Ax : Int := c6.2.1
 let v_c : am := c6.2.2.1
 let cu : Bool := c6.2.2.2
 let v_s : aa := v_t
 if cu = true then
 some (v_s, Ax, v_c)
 else
 (eh v_s v_n true).bind fun c7 => let v_s : aa := c7.1
 let yf : Int := c7.2.1
 let wV : am := c7.2.2
 if (yf != 0) = true then
 some (v_s, yf, wV)
 else
 (eh v_s v_n false).bind fun c8 => some c8
 else
 (eh v_s v_n true).bind fun c9 => let v_s : aa := c9.1
 let yf : Int := c9.2.1
 let wV : am := c9.2.2
 if (yf != 0) = true then
 some (v_s, yf, wV)
 else
 (eh v_s v_n false).bind fun c10 => some c10
def ja (ct : Int) (st : aa × (List am) × Int) : Option ((aa × (List am) × Int) ⊕ ((aa × (List am) × Int))) :=
 let v_s := st.1
 let v_l := st.2.1
 let v_k := st.2.2
 if (decide (v_k < 3)) = true then
 (vS v_s ct).bind fun c1 => let v_t : aa := c1.1
 let Ax : Int := c1.2.1
 let v_c : am := c1.2.2
 let v_s : aa := v_t
 if (Ax != 1) = true then
 some (.inr (v_s, v_l, v_k))
 else
 (aU v_l [v_c]).bind fun b2 => let v_l : (List am) := b2
 let v_k : Int := (i64.wrap (v_k + 1))
 some (.inl (v_s, v_l, v_k))
 else
 some (.inr (v_s, v_l, v_k))
def p8 (v_s : aa) (ct : Int) : Option (aa × (List am)) :=
 let v_l : (List am) := []
 let v_k : Int := 0
 (ah (ja ct) ab (v_s, v_l, v_k)).bind fun r3 =>
 let v_s := r3.1
 let v_l := r3.2.1
 let v_k := r3.2.2
 some (v_s, v_l)
def lH (v_n : Int) : Option (Int) :=
 (if (decide (v_n < 0)) = true then some true else some (decide (v_n > 1125899906842624))).bind fun q1 => if q1 = true then
 some 0
 else
 some v_n
def od (v_n : Int) (bV : (List Int)) (gJ : (List Int)) (cm : (List Int)) (st : (List Int) × Int × Int) : Option (((List Int) × Int × Int) ⊕ (((List Int) × Int × Int))) :=
 let al := st.1
 let cn := st.2.1
 let v_i := st.2.2
 if (decide (v_i < v_n)) = true then
 (av bV v_i).bind fun b2 => (lH b2).bind fun c3 => (av gJ v_i).bind fun b4 => (lH b4).bind fun c5 => (av cm v_i).bind fun b6 => (lH b6).bind fun c7 => let v_x : Int := (if cn < (if c7 < (if c5 < c3 then c5 else c3) then c7 else (if c5 < c3 then c5 else c3)) then cn else (if c7 < (if c5 < c3 then c5 else c3) then c7 else (if c5 < c3 then c5 else c3)))
 (aU al [v_x]).bind fun b8 => let al : (List Int) := b8
 let cn : Int := (i64.wrap (cn - v_x))
 let v_i : Int := (i64.wrap (v_i + 1))
 some (.inl (al, cn, v_i))
 else
 some (.inr (al, cn, v_i))
def ob (v_n : Int) (gJ : (List Int)) (cm : (List Int)) (st : (List Int) × Int × Int) : Option (((List Int) × Int × Int) ⊕ (((List Int) × Int × Int))) :=
 let al := st.1
 let cn := st.2.1
 let aI := st.2.2
 if (decide (aI < v_n)) = true then
 (av gJ aI).bind fun b10 => (lH b10).bind fun c11 => (av cm aI).bind fun b12 => (lH b12).bind fun c13 => (av al aI).bind fun b14 => let ZJ : Int := (if cn < (if 0 > (i64.wrap ((if c13 < c11 then c13 else c11) - b14)) then 0 else (i64.wrap ((if c13 < c11 then c13 else c11) - b14))) then cn else (if 0 > (i64.wrap ((if c13 < c11 then c13 else c11) - b14)) then 0 else (i64.wrap ((if c13 < c11 then c13 else c11) - b14))))
 (av al aI).bind fun b15 => (av al aI).bind fun b16 => let al : (List Int) := (List.set al (Int.toNat aI) (i64.wrap (b15 + ZJ)))
 let cn : Int := (i64.wrap (cn - ZJ))
 let aI : Int := (i64.wrap (aI + 1))
 some (.inl (al, cn, aI))
 else
 some (.inr (al, cn, aI))
def vO (fJ : Int) (bV : (List Int)) (gJ : (List Int)) (cm : (List Int)) : Option ((List Int)) :=
 let v_n : Int := (if (cm.length : Int) < (if (gJ.length : Int) < (bV.length : Int) then (gJ.length : Int) else (bV.length : Int)) then (cm.length : Int) else (if (gJ.length : Int) < (bV.length : Int) then (gJ.length : Int) else (bV.length : Int)))
 (lH fJ).bind fun c1 => let cn : Int := c1
 let al : (List Int) := []
 let v_i : Int := 0
 (ah (od v_n bV gJ cm) ab (al, cn, v_i)).bind fun r9 =>
 let al := r9.1
 let cn := r9.2.1
 let v_i := r9.2.2
 let aI : Int := 0
 (ah (ob v_n gJ cm) ab (al, cn, aI)).bind fun r17 =>
 let al := r17.1
 let cn := r17.2.1
 let aI := r17.2.2
 some al
def p6 (self : (aa → ByteArray → Int → Int → Option ((List aj)))) (bw : (List ByteArray)) (v_s : aa) (af : Int) (st : (List Int) × (List Int) × (List Int) × Int) : Option (((List Int) × (List Int) × (List Int) × Int) ⊕ (((List Int) × (List Int) × (List Int) × Int))) :=
 let bV := st.1
 let cm := st.2.1
 let gJ := st.2.2.1
 let v_i := st.2.2.2
 if (decide (v_i < (bw.length : Int))) = true then
 (av bw v_i).bind fun b2 => (lq v_s b2 af).bind fun c3 => (aU bV [c3.bD]).bind fun b4 => let bV : (List Int) := b4
 (av bw v_i).bind fun b5 => (vG v_s b5 af).bind fun c6 => (aU cm [c6.bD]).bind fun b7 => let cm : (List Int) := b7
 (av bw v_i).bind fun b8 => (eG v_s b8 af).bind fun c9 => (av bw v_i).bind fun b10 => (nR v_s b10 af).bind fun c11 => (aU gJ [(i64.wrap (c9.bD + c11.bD))]).bind fun b12 => let gJ : (List Int) := b12
 let v_i : Int := (i64.wrap (v_i + 1))
 some (.inl (bV, cm, gJ, v_i))
 else
 some (.inr (bV, cm, gJ, v_i))
def p5 (self : (aa → ByteArray → Int → Int → Option ((List aj)))) (bw : (List ByteArray)) (v_s : aa) (af : Int) (v_x : (List Int)) (st : (List aj) × Int) : Option (((List aj) × Int) ⊕ (((List aj) × Int))) :=
 let al := st.1
 let aI := st.2
 if (decide (aI < (bw.length : Int))) = true then
 (av bw aI).bind fun b15 => (av v_x aI).bind fun b16 => (self v_s b15 af b16).bind fun c17 => (aU al c17).bind fun b18 => let al : (List aj) := b18
 let aI : Int := (i64.wrap (aI + 1))
 some (.inl (al, aI))
 else
 some (.inr (al, aI))
def lI : Nat → aa → ByteArray → Int → Int → Option ((List aj))
 | 0 => fun _ _ _ _ => none
 | fuel + 1 => fun v_s au af YF =>
 let self := lI fuel
 (ff v_s.bN au).bind fun c1 => let bw : (List ByteArray) := c1
 if ((bw.length : Int) == 0) = true then
 some ([(⟨au, YF⟩ : aj)] : (List aj))
 else
 let bV : (List Int) := []
 let gJ : (List Int) := []
 let cm : (List Int) := []
 let v_i : Int := 0
 (ah (p6 self bw v_s af) ab (bV, cm, gJ, v_i)).bind fun r13 =>
 let bV := r13.1
 let cm := r13.2.1
 let gJ := r13.2.2.1
 let v_i := r13.2.2.2
 (vO YF bV gJ cm).bind fun c14 => let v_x : (List Int) := c14
 let al : (List aj) := []
 let aI : Int := 0
 (ah (p5 self bw v_s af v_x) ab (al, aI)).bind fun r19 =>
 let al := r19.1
 let aI := r19.2
 some al
def gr (al : (List aj)) (v_i : Int) (v_l : (List aj)) (st : Int) : Option ((Int) ⊕ ((Int))) :=
 let v_k := st
 (if (decide (v_k < (al.length : Int))) = true then (av al v_k).bind fun b3 => (av v_l v_i).bind fun b4 => some (Op.bytesLess b3.aF.toList b4.aF.toList) else some false).bind fun q5 => if q5 = true then
 let v_k : Int := (i64.wrap (v_k + 1))
 some (.inl v_k)
 else
 some (.inr v_k)
def jx (v_l : (List aj)) (st : (List aj) × Int) : Option (((List aj) × Int) ⊕ (((List aj) × Int))) :=
 let al := st.1
 let v_i := st.2
 if (decide (v_i < (v_l.length : Int))) = true then
 let v_k : Int := 0
 (ah (gr al v_i v_l) ab v_k).bind fun r6 =>
 let v_k := r6
 (hiO al v_k).bind fun b7 => (aU ([] : (List aj)) b7).bind fun b8 => let v_x : (List aj) := b8
 (av v_l v_i).bind fun b9 => (aU v_x [b9]).bind fun b10 => let v_x : (List aj) := b10
 (loO al v_k).bind fun b11 => (aU v_x b11).bind fun b12 => let al : (List aj) := b12
 let v_i : Int := (i64.wrap (v_i + 1))
 some (.inl (al, v_i))
 else
 some (.inr (al, v_i))
def p7 (v_s : aa) (af : Int) : Option ((List aj)) :=
 let al : (List aj) := []
 (iY v_s af).bind fun c1 => (lI ab v_s (⟨#[114, 111, 111, 116]⟩ : ByteArray) af c1.bD).bind fun c2 => let v_l : (List aj) := c2
 let v_i : Int := 0
 (ah (jx v_l) ab (al, v_i)).bind fun r13 =>
 let al := r13.1
 let v_i := r13.2
 some al
def nn (v_l : (List aj)) (au : ByteArray) (st : Int) : Option ((Int) ⊕ ((Int) ⊕ (Int))) :=
 let v_i := st
 if (decide (v_i < (v_l.length : Int))) = true then
 (av v_l v_i).bind fun b2 => if (b2.aF.toList == au.toList) = true then
 (av v_l v_i).bind fun b3 => some (.inr (.inr b3.bD))
 else
 let v_i : Int := (i64.wrap (v_i + 1))
 some (.inl v_i)
 else
 some (.inr (.inl v_i))
def zF (v_s : aa) (af : Int) (au : ByteArray) : Option (Int) :=
 (p7 v_s af).bind fun c1 => let v_l : (List aj) := c1
 let v_i : Int := 0
 (ah (nn v_l au) ab v_i).bind fun r4 => match r4 with
 | .inr m5 => some m5
 | .inl m5 =>
 let v_i := m5
 some 0
def i7 (v_s : aa) (v_c : am) : Option (ByteArray) :=
 (dV v_s v_c.bC).bind fun c1 => let v_a : aq := c1.1
 some v_a.bF
def jY (v_a : aq) (au : ByteArray) (v_s : aa) (af : Int) (bV : Int) (ml : Int) (st : Int) : Option ((Int) ⊕ ((Int) ⊕ (Int))) :=
 let v_k := st
 (if (decide (v_k < (v_a.bE.length : Int))) = true then (cX v_a).bind fun c6 => some c6 else some false).bind fun q7 => (if q7 = true then some (v_a.bF.toList == au.toList) else some false).bind fun q8 => if q8 = true then
 (av v_a.bE v_k).bind fun b9 => (if (b9.aY == af) = true then (av v_a.bE v_k).bind fun b10 => some (decide ((i64.wrap (b10.cC.bD + ml)) ≤ bV)) else some false).bind fun q11 => if q11 = true then
 (nR v_s au af).bind fun c12 => some (.inr (.inr (if (i64.wrap (bV - ml)) < c12.bD then (i64.wrap (bV - ml)) else c12.bD)))
 else
 let v_k : Int := (i64.wrap (v_k + 1))
 some (.inl v_k)
 else
 some (.inr (.inl v_k))
def jZ (v_s : aa) (au : ByteArray) (af : Int) (bV : Int) (ml : Int) (st : Int) : Option ((Int) ⊕ ((Int) ⊕ (Int))) :=
 let v_i := st
 if (decide (v_i < (v_s.ai.length : Int))) = true then
 (av v_s.ai v_i).bind fun b5 => let v_a : aq := b5
 let v_k : Int := 0
 (ah (jY v_a au v_s af bV ml) ab v_k).bind fun r13 => match r13 with
 | .inr m14 => some (.inr (.inr m14))
 | .inl m14 =>
 let v_k := m14
 let v_i : Int := (i64.wrap (v_i + 1))
 some (.inl v_i)
 else
 some (.inr (.inl v_i))
def se (v_s : aa) (au : ByteArray) (af : Int) : Option (Int) :=
 (eG v_s au af).bind fun c1 => (lq v_s au af).bind fun c2 => let t3 : Int := c1.bD
 let t4 : Int := c2.bD
 let ml : Int := t3
 let bV : Int := t4
 let v_i : Int := 0
 (ah (jZ v_s au af bV ml) ab v_i).bind fun r15 => match r15 with
 | .inr m16 => some m16
 | .inl m16 =>
 let v_i := m16
 some 0
def oT (v_l : (List Int)) (v_n : Int) (st : Int) : Option ((Int) ⊕ ((Int) ⊕ (Bool))) :=
 let v_i := st
 if (decide (v_i < (v_l.length : Int))) = true then
 (av v_l v_i).bind fun b1 => if (b1 == v_n) = true then
 some (.inr (.inr true))
 else
 let v_i : Int := (i64.wrap (v_i + 1))
 some (.inl v_i)
 else
 some (.inr (.inl v_i))
def xN (v_l : (List Int)) (v_n : Int) : Option (Bool) :=
 let v_i : Int := 0
 (ah (oT v_l v_n) ab v_i).bind fun r2 => match r2 with
 | .inr m3 => some m3
 | .inl m3 =>
 let v_i := m3
 some false
def jw (v_s : aa) (af : Int) (au : ByteArray) (v_l : (List Int)) (st : Int × Int) : Option ((Int × Int) ⊕ ((Int × Int))) :=
 let v_n := st.1
 let v_i := st.2
 if (decide (v_i < (v_s.ac.length : Int))) = true then
 (av v_s.ac v_i).bind fun b1 => let v_c : am := b1
 (if (v_c.aY == af) = true then (if (au.toList == (⟨#[]⟩ : ByteArray).toList) = true then some true else (i7 v_s v_c).bind fun c2 => some (c2.toList == au.toList)).bind fun q3 => some q3 else some false).bind fun q4 => (if q4 = true then (if (v_c.jm != 0) = true then some true else (xN v_l v_c.fId).bind fun c5 => some c5).bind fun q6 => some q6 else some false).bind fun q7 => if q7 = true then
 let v_n : Int := (i64.wrap (v_n + v_c.cC.bD))
 let v_i : Int := (i64.wrap (v_i + 1))
 some (.inl (v_n, v_i))
 else
 let v_i : Int := (i64.wrap (v_i + 1))
 some (.inl (v_n, v_i))
 else
 some (.inr (v_n, v_i))
def mN (v_s : aa) (au : ByteArray) (af : Int) (v_l : (List Int)) : Option (Int) :=
 let v_n : Int := 0
 let v_i : Int := 0
 (ah (jw v_s af au v_l) ab (v_n, v_i)).bind fun r8 =>
 let v_n := r8.1
 let v_i := r8.2
 some v_n
def jv (v_s : aa) (af : Int) (au : ByteArray) (v_l : (List Int)) (st : am × Bool × Int) : Option ((am × Bool × Int) ⊕ ((am × Bool × Int))) :=
 let cL := st.1
 let bS := st.2.1
 let v_i := st.2.2
 if (decide (v_i < (v_s.ac.length : Int))) = true then
 (av v_s.ac v_i).bind fun b3 => let v_c : am := b3
 (if (v_c.aY != af) = true then some true else (i7 v_s v_c).bind fun c4 => some (!(c4.toList == au.toList))).bind fun q5 => (if q5 = true then some true else some (v_c.jm != 0)).bind fun q6 => (if q6 = true then some true else (xN v_l v_c.fId).bind fun c7 => some c7).bind fun q8 => if q8 = true then
 let v_i : Int := (i64.wrap (v_i + 1))
 some (.inl (cL, bS, v_i))
 else
 (if (!bS) = true then some true else (if cL.bB = true then some (!v_c.bB) else some false).bind fun q9 => some q9).bind fun q10 => (if q10 = true then some true else (if (cL.bB == v_c.bB) = true then some (decide (v_c.fId > cL.fId)) else some false).bind fun q11 => some q11).bind fun q12 => if q12 = true then
 let t13 : am := v_c
 let t14 : Bool := true
 let cL : am := t13
 let bS : Bool := t14
 let v_i : Int := (i64.wrap (v_i + 1))
 some (.inl (cL, bS, v_i))
 else
 let v_i : Int := (i64.wrap (v_i + 1))
 some (.inl (cL, bS, v_i))
 else
 some (.inr (cL, bS, v_i))
def pX (v_s : aa) (au : ByteArray) (af : Int) (v_l : (List Int)) : Option (am × Bool) :=
 let t1 : am := (⟨0, 0, 0, ax.zero, 0, 0, false, 0⟩ : am)
 let t2 : Bool := false
 let cL : am := t1
 let bS : Bool := t2
 let v_i : Int := 0
 (ah (jv v_s af au v_l) ab (cL, bS, v_i)).bind fun r15 =>
 let cL := r15.1
 let bS := r15.2.1
 let v_i := r15.2.2
 some (cL, bS)
def lD (bP : (List aj)) (v_s : aa) (af : Int) (st : Int × Int) : Option ((Int × Int) ⊕ ((Int × Int))) :=
 let kP := st.1
 let v_i := st.2
 if (decide (v_i < (bP.length : Int))) = true then
 (av bP v_i).bind fun b4 => (se v_s b4.aF af).bind fun c5 => let kP : Int := (i64.wrap (kP + c5))
 let v_i : Int := (i64.wrap (v_i + 1))
 some (.inl (kP, v_i))
 else
 some (.inr (kP, v_i))
def lC (bP : (List aj)) (v_s : aa) (af : Int) (v_l : (List Int)) (st : Int × am × Int) : Option ((Int × am × Int) ⊕ ((Int × am × Int))) :=
 let cm := st.1
 let v_x := st.2.1
 let aI := st.2.2
 if (decide (aI < (bP.length : Int))) = true then
 (av bP aI).bind fun b10 => let v_p : ByteArray := b10.aF
 (eG v_s v_p af).bind fun c11 => (av bP aI).bind fun b12 => (mN v_s v_p af v_l).bind fun c13 => let DJ : Int := (i64.wrap ((i64.wrap (c11.bD - b12.bD)) - c13))
 (pX v_s v_p af v_l).bind fun c14 => let v_c : am := c14.1
 let bS : Bool := c14.2
 (if bS = true then some (decide (DJ > cm)) else some false).bind fun q15 => if q15 = true then
 let t16 : Int := DJ
 let t17 : am := v_c
 let cm : Int := t16
 let v_x : am := t17
 let aI : Int := (i64.wrap (aI + 1))
 some (.inl (cm, v_x, aI))
 else
 let aI : Int := (i64.wrap (aI + 1))
 some (.inl (cm, v_x, aI))
 else
 some (.inr (cm, v_x, aI))
def pZ (v_s : aa) (af : Int) (kP : Int) (bP : (List aj)) (st : (List Int)) : Option (((List Int)) ⊕ (((List Int)) ⊕ ((List Int)))) :=
 let v_l := st
 (mN v_s (⟨#[]⟩ : ByteArray) af v_l).bind fun c7 => if (decide (c7 < kP)) = true then
 let t8 : Int := 0
 let t9 : am := (⟨0, 0, 0, ax.zero, 0, 0, false, 0⟩ : am)
 let cm : Int := t8
 let v_x : am := t9
 let aI : Int := 0
 (ah (lC bP v_s af v_l) ab (cm, v_x, aI)).bind fun r18 =>
 let cm := r18.1
 let v_x := r18.2.1
 let aI := r18.2.2
 if (cm == 0) = true then
 some (.inr (.inr v_l))
 else
 (aU v_l [v_x.fId]).bind fun b19 => let v_l : (List Int) := b19
 some (.inl v_l)
 else
 some (.inr (.inl v_l))
def zD (v_s : aa) (af : Int) : Option ((List Int)) :=
 (p7 v_s af).bind fun c1 => let bP : (List aj) := c1
 (iY v_s af).bind fun c2 => (eG v_s (⟨#[114, 111, 111, 116]⟩ : ByteArray) af).bind fun c3 => let kP : Int := (i64.wrap (0 - (if 0 > (i64.wrap (c2.bD - c3.bD)) then 0 else (i64.wrap (c2.bD - c3.bD)))))
 let v_i : Int := 0
 (ah (lD bP v_s af) ab (kP, v_i)).bind fun r6 =>
 let kP := r6.1
 let v_i := r6.2
 let v_l : (List Int) := []
 (ah (pZ v_s af kP bP) ab v_l).bind fun r20 => match r20 with
 | .inr m21 => some m21
 | .inl m21 =>
 let v_l := m21
 some v_l
def pW (v_t : Int) (bA : Int) (st : (List am) × Int) : Option (((List am) × Int) ⊕ (((List am) × Int))) :=
 let v_l := st.1
 let v_i := st.2
 if (decide (v_i < (v_l.length : Int))) = true then
 (av v_l v_i).bind fun b2 => if (b2.fId == bA) = true then
 (av v_l v_i).bind fun b3 => let v_l : (List am) := (List.set v_l (Int.toNat v_i) ({ b3 with jm := v_t }))
 let v_i : Int := (i64.wrap (v_i + 1))
 some (.inl (v_l, v_i))
 else
 let v_i : Int := (i64.wrap (v_i + 1))
 some (.inl (v_l, v_i))
 else
 some (.inr (v_l, v_i))
def nQ (v_s : aa) (bA : Int) (v_t : Int) : Option (aa) :=
 (aU ([] : (List am)) v_s.ac).bind fun b1 => let v_l : (List am) := b1
 let v_i : Int := 0
 (ah (pW v_t bA) ab (v_l, v_i)).bind fun r4 =>
 let v_l := r4.1
 let v_i := r4.2
 let v_s : aa := { v_s with ac := v_l }
 some v_s
def lG (kO : aa) (ye : aa) (st : (List Int) × Int) : Option (((List Int) × Int) ⊕ (((List Int) × Int))) :=
 let v_l := st.1
 let v_i := st.2
 if (decide (v_i < (kO.ac.length : Int))) = true then
 (av kO.ac v_i).bind fun b1 => (eL ye b1.fId).bind fun c2 => let bS : Bool := c2.2
 if (!bS) = true then
 (av kO.ac v_i).bind fun b3 => (aU v_l [b3.fId]).bind fun b4 => let v_l : (List Int) := b4
 let v_i : Int := (i64.wrap (v_i + 1))
 some (.inl (v_l, v_i))
 else
 let v_i : Int := (i64.wrap (v_i + 1))
 some (.inl (v_l, v_i))
 else
 some (.inr (v_l, v_i))
def uW (kO : aa) (ye : aa) : Option ((List Int)) :=
 let v_l : (List Int) := []
 let v_i : Int := 0
 (ah (lG kO ye) ab (v_l, v_i)).bind fun r5 =>
 let v_l := r5.1
 let v_i := r5.2
 some v_l
def mM (v_s : aa) (v_c : am) (st : Int × Int) : Option ((Int × Int) ⊕ ((Int × Int))) :=
 let v_n := st.1
 let v_i := st.2
 (if (decide (v_i < (v_s.ac.length : Int))) = true then some v_c.bB else some false).bind fun q1 => if q1 = true then
 (av v_s.ac v_i).bind fun b2 => (if (b2.bC == v_c.bC) = true then (av v_s.ac v_i).bind fun b3 => some (b3.fId != v_c.fId) else some false).bind fun q4 => (if q4 = true then (av v_s.ac v_i).bind fun b5 => some (b5.aY == v_c.aY) else some false).bind fun q6 => if q6 = true then
 (av v_s.ac v_i).bind fun b7 => let v_n : Int := (i64.wrap (v_n + b7.cC.bD))
 let v_i : Int := (i64.wrap (v_i + 1))
 some (.inl (v_n, v_i))
 else
 let v_i : Int := (i64.wrap (v_i + 1))
 some (.inl (v_n, v_i))
 else
 some (.inr (v_n, v_i))
def pV (v_s : aa) (v_c : am) : Option (Int) :=
 let v_n : Int := 0
 let v_i : Int := 0
 (ah (mM v_s v_c) ab (v_n, v_i)).bind fun r8 =>
 let v_n := r8.1
 let v_i := r8.2
 some v_n
def pY (v_s : aa) (af : Int) (st : (List am) × Int) : Option (((List am) × Int) ⊕ (((List am) × Int))) :=
 let v_l := st.1
 let v_i := st.2
 if (decide (v_i ≥ 0)) = true then
 (av v_s.ac v_i).bind fun b1 => let v_c : am := b1
 (if (v_c.aY == af) = true then some (v_c.jm != 0) else some false).bind fun q2 => (if q2 = true then some (decide ((i64.wrap (v_c.jm + 3)) ≤ v_s.bW)) else some false).bind fun q3 => if q3 = true then
 (aU v_l [v_c]).bind fun b4 => let v_l : (List am) := b4
 let v_i : Int := (i64.wrap (v_i - 1))
 some (.inl (v_l, v_i))
 else
 let v_i : Int := (i64.wrap (v_i - 1))
 some (.inl (v_l, v_i))
 else
 some (.inr (v_l, v_i))
def lA (v_l : (List am)) (af : Int) (st : aa × Int) : Option ((aa × Int) ⊕ ((aa × Int))) :=
 let v_s := st.1
 let aI := st.2
 if (decide (aI < (v_l.length : Int))) = true then
 (av v_l aI).bind fun b6 => (eL v_s b6.fId).bind fun c7 => let wV : am := c7.1
 let bS : Bool := c7.2
 if (!bS) = true then
 let aI : Int := (i64.wrap (aI + 1))
 some (.inl (v_s, aI))
 else
 (i7 v_s wV).bind fun c8 => (eG v_s c8 af).bind fun c9 => (pV v_s wV).bind fun c10 => (i7 v_s wV).bind fun c11 => (zF v_s af c11).bind fun c12 => if (decide ((i64.wrap (c9.bD - c10)) > c12)) = true then
 (jg v_s ([wV.fId] : (List Int))).bind fun c13 => let v_s : aa := c13
 let aI : Int := (i64.wrap (aI + 1))
 some (.inl (v_s, aI))
 else
 (nQ v_s wV.fId 0).bind fun c14 => let v_s : aa := c14
 let aI : Int := (i64.wrap (aI + 1))
 some (.inl (v_s, aI))
 else
 some (.inr (v_s, aI))
def zA (v_s : aa) (af : Int) : Option (aa) :=
 let v_l : (List am) := []
 let v_i : Int := (i64.wrap ((v_s.ac.length : Int) - 1))
 (ah (pY v_s af) ab (v_l, v_i)).bind fun r5 =>
 let v_l := r5.1
 let v_i := r5.2
 let aI : Int := 0
 (ah (lA v_l af) ab (v_s, aI)).bind fun r15 =>
 let v_s := r15.1
 let aI := r15.2
 some v_s
def j7 (v_l : (List Int)) (st : aa × Int) : Option ((aa × Int) ⊕ ((aa × Int))) :=
 let v_s := st.1
 let v_i := st.2
 if (decide (v_i < (v_l.length : Int))) = true then
 (av v_l v_i).bind fun b3 => (nQ v_s b3 (if 1 > v_s.bW then 1 else v_s.bW)).bind fun c4 => let v_s : aa := c4
 let v_i : Int := (i64.wrap (v_i + 1))
 some (.inl (v_s, v_i))
 else
 some (.inr (v_s, v_i))
def oa (st : aa × Int) : Option ((aa × Int) ⊕ ((aa × Int))) :=
 let v_s := st.1
 let af := st.2
 if (decide (af < (v_s.bN.ak.length : Int))) = true then
 (zA v_s af).bind fun c1 => let v_s : aa := c1
 (zD v_s af).bind fun c2 => let v_l : (List Int) := c2
 let v_i : Int := 0
 (ah (j7 v_l) ab (v_s, v_i)).bind fun r5 =>
 let v_s := r5.1
 let v_i := r5.2
 let af : Int := (i64.wrap (af + 1))
 some (.inl (v_s, af))
 else
 some (.inr (v_s, af))
def vN (v_s : aa) : Option (aa × (List Int)) :=
 let kO : aa := v_s
 let af : Int := 0
 (ah (oa) ab (v_s, af)).bind fun r6 =>
 let v_s := r6.1
 let af := r6.2
 (uW kO v_s).bind fun c7 => some (v_s, c7)
def oU (v_l : (List a7)) (af : Int) (v_t : Int) (st : ax × Int) : Option ((ax × Int) ⊕ ((ax × Int))) :=
 let v_v := st.1
 let v_i := st.2
 if (decide (v_i < (v_l.length : Int))) = true then
 (av v_l v_i).bind fun b1 => (if (b1.aY == af) = true then (av v_l v_i).bind fun b2 => some (decide (b2.nG ≤ v_t)) else some false).bind fun q3 => (if q3 = true then (av v_l v_i).bind fun b4 => some (decide (v_t < b4.jJ)) else some false).bind fun q5 => if q5 = true then
 (av v_l v_i).bind fun b6 => (dc v_v b6.iH).bind fun c7 => let v_v : ax := c7
 let v_i : Int := (i64.wrap (v_i + 1))
 some (.inl (v_v, v_i))
 else
 let v_i : Int := (i64.wrap (v_i + 1))
 some (.inl (v_v, v_i))
 else
 some (.inr (v_v, v_i))
def u4 (v_l : (List a7)) (af : Int) (v_t : Int) : Option (ax) :=
 let v_v : ax := (⟨0, 0⟩ : ax)
 let v_i : Int := 0
 (ah (oU v_l af v_t) ab (v_v, v_i)).bind fun r8 =>
 let v_v := r8.1
 let v_i := r8.2
 some v_v
def uY (v_n : Int) : Option (Bool) :=
 (if (decide (v_n ≥ 0)) = true then some (decide (v_n ≤ 1073741824)) else some false).bind fun q1 => some q1
def lJ (v_l : (List a7)) (v_t : Int) (gK : Int) (v_p : a7) (fJ : ax) (st : Int) : Option ((Int) ⊕ ((Int) ⊕ (Bool))) :=
 let v_i := st
 if (decide (v_i < (v_l.length : Int))) = true then
 (av v_l v_i).bind fun b4 => let v_u : Int := b4.nG
 (if (decide (v_u > v_t)) = true then some (decide ((i64.wrap (v_u - v_t)) < gK)) else some false).bind fun q5 => (if q5 = true then (u4 v_l v_p.aY v_u).bind fun c6 => (dc c6 v_p.iH).bind fun c7 => (fL c7 fJ).bind fun c8 => some (!c8) else some false).bind fun q9 => if q9 = true then
 some (.inr (.inr false))
 else
 let v_i : Int := (i64.wrap (v_i + 1))
 some (.inl v_i)
 else
 some (.inr (.inl v_i))
def sf (v_l : (List a7)) (fJ : ax) (v_p : a7) (v_t : Int) (gK : Int) : Option (Bool) :=
 (u4 v_l v_p.aY v_t).bind fun c1 => (dc c1 v_p.iH).bind fun c2 => (fL c2 fJ).bind fun c3 => if (!c3) = true then
 some false
 else
 let v_i : Int := 0
 (ah (lJ v_l v_t gK v_p fJ) ab v_i).bind fun r10 => match r10 with
 | .inr m11 => some m11
 | .inl m11 =>
 let v_i := m11
 some true
def oe (v_l : (List a7)) (v_p : a7) (gK : Int) (fJ : ax) (st : Int × Int) : Option ((Int × Int) ⊕ ((Int × Int))) :=
 let cL := st.1
 let v_i := st.2
 if (decide (v_i < (v_l.length : Int))) = true then
 let v_t : Int := v_p.nG
 (if (decide (v_i ≥ 0)) = true then
 (av v_l v_i).bind fun b11 => let v_t : Int := b11.jJ
 some v_t
 else
 some v_t).bind fun j10 => let v_t := j10
 (if (decide (v_t ≥ v_p.nG)) = true then some (decide (v_t ≤ 1000000)) else some false).bind fun q12 => (if q12 = true then some (decide ((i64.wrap (v_t + gK)) ≤ v_p.jJ)) else some false).bind fun q13 => (if q13 = true then (if (decide (cL < 0)) = true then some true else some (decide (v_t < cL))).bind fun q14 => some q14 else some false).bind fun q15 => (if q15 = true then (sf v_l fJ v_p v_t gK).bind fun c16 => some c16 else some false).bind fun q17 => if q17 = true then
 let cL : Int := v_t
 let v_i : Int := (i64.wrap (v_i + 1))
 some (.inl (cL, v_i))
 else
 let v_i : Int := (i64.wrap (v_i + 1))
 some (.inl (cL, v_i))
 else
 some (.inr (cL, v_i))
def vP (v_l : (List a7)) (fJ : ax) (v_p : a7) (gK : Int) : Option (Int × Int) :=
 (if (decide (gK < 1)) = true then some true else some (decide (gK > 1000))).bind fun q1 => (if q1 = true then some true else some (decide (v_p.nG < 0))).bind fun q2 => (if q2 = true then some true else some (decide (v_p.nG > 1000000))).bind fun q3 => (if q3 = true then some true else some (decide (v_p.jJ < 0))).bind fun q4 => (if q4 = true then some true else some (decide (v_p.jJ > 1000000))).bind fun q5 => (if q5 = true then some true else (uY v_p.iH.bD).bind fun c6 => some (!c6)).bind fun q7 => (if q7 = true then some true else (uY v_p.iH.bj).bind fun c8 => some (!c8)).bind fun q9 => if q9 = true then
 some (0, 1)
 else
 let cL : Int := (-1)
 let v_i : Int := (-1)
 (ah (oe v_l v_p gK fJ) ab (cL, v_i)).bind fun r18 =>
 let cL := r18.1
 let v_i := r18.2
 if (decide (cL < 0)) = true then
 some (0, 16)
 else
 some (cL, 0)
def np (v_s : aa) (v_p : a7) (st : Int × Int) : Option ((Int × Int) ⊕ ((Int × Int) ⊕ (aa × Int × Int))) :=
 let v_k := st.1
 let v_i := st.2
 if (decide (v_i < (v_s.bg.length : Int))) = true then
 (av v_s.bg v_i).bind fun b5 => if (b5.fId == v_p.fId) = true then
 some (.inr (.inr (v_s, 0, 7)))
 else
 (av v_s.bg v_i).bind fun b6 => if (decide (b6.fId < v_p.fId)) = true then
 let v_k : Int := (i64.wrap (v_i + 1))
 let v_i : Int := (i64.wrap (v_i + 1))
 some (.inl (v_k, v_i))
 else
 let v_i : Int := (i64.wrap (v_i + 1))
 some (.inl (v_k, v_i))
 else
 some (.inr (.inl (v_k, v_i)))
def zJ (v_s : aa) (v_p : a7) (gK : Int) : Option (aa × Int × Int) :=
 (if (decide (v_p.fId < 0)) = true then some true else some (decide (v_p.fId > 999))).bind fun q1 => (if q1 = true then some true else some (decide (v_p.aY < 0))).bind fun q2 => (if q2 = true then some true else some (decide (v_p.aY ≥ (v_s.bN.ak.length : Int)))).bind fun q3 => (if q3 = true then some true else some ((v_p.iH.bD == (⟨0, 0⟩ : ax).bD) && (v_p.iH.bj == (⟨0, 0⟩ : ax).bj))).bind fun q4 => if q4 = true then
 some (v_s, 0, 1)
 else
 let v_k : Int := 0
 let v_i : Int := 0
 (ah (np v_s v_p) ab (v_k, v_i)).bind fun r7 => match r7 with
 | .inr m8 => some m8
 | .inl m8 =>
 let v_k := m8.1
 let v_i := m8.2
 if (decide ((v_s.bg.length : Int) ≥ 12)) = true then
 some (v_s, 0, 4)
 else
 if (decide (v_p.nG < v_s.bW)) = true then
 some (v_s, 0, 15)
 else
 (iY v_s v_p.aY).bind fun c9 => (vP v_s.bg c9 v_p gK).bind fun c10 => let v_t : Int := c10.1
 let v_e : Int := c10.2
 if (v_e != 0) = true then
 some (v_s, 0, v_e)
 else
 (hiO v_s.bg v_k).bind fun b11 => (aU ([] : (List a7)) b11).bind fun b12 => let v_l : (List a7) := b12
 (aU v_l [(⟨v_p.fId, v_p.aY, v_t, (i64.wrap (v_t + gK)), v_p.iH⟩ : a7)]).bind fun b13 => let v_l : (List a7) := b13
 (loO v_s.bg v_k).bind fun b14 => (aU v_l b14).bind fun b15 => let v_s : aa := { v_s with bg := b15 }
 some (v_s, v_t, 0)
def lK (v_s : aa) (bA : Int) (st : (List a7) × Int) : Option (((List a7) × Int) ⊕ (((List a7) × Int))) :=
 let v_l := st.1
 let v_i := st.2
 if (decide (v_i < (v_s.bg.length : Int))) = true then
 (av v_s.bg v_i).bind fun b1 => if (b1.fId != bA) = true then
 (av v_s.bg v_i).bind fun b2 => (aU v_l [b2]).bind fun b3 => let v_l : (List a7) := b3
 let v_i : Int := (i64.wrap (v_i + 1))
 some (.inl (v_l, v_i))
 else
 let v_i : Int := (i64.wrap (v_i + 1))
 some (.inl (v_l, v_i))
 else
 some (.inr (v_l, v_i))
def uZ (v_s : aa) (bA : Int) : Option (aa × Int) :=
 let v_l : (List a7) := []
 let v_i : Int := 0
 (ah (lK v_s bA) ab (v_l, v_i)).bind fun r4 =>
 let v_l := r4.1
 let v_i := r4.2
 if ((v_l.length : Int) == (v_s.bg.length : Int)) = true then
 some (v_s, 2)
 else
 let v_s : aa := { v_s with bg := v_l }
 some (v_s, 0)
def te (v_s : ByteArray) (v_c : Int) (st : (List ByteArray) × Int × Int) : Option (((List ByteArray) × Int × Int) ⊕ (((List ByteArray) × Int × Int))) :=
 let v_l := st.1
 let oC := st.2.1
 let v_i := st.2.2
 if (decide (v_i < (v_s.size : Int))) = true then
 (kW v_s v_i).bind fun b1 => if (b1 == v_c) = true then
 (Jl v_s oC v_i).bind fun b2 => (aU v_l [b2]).bind fun b3 => let v_l : (List ByteArray) := b3
 let oC : Int := (i64.wrap (v_i + 1))
 let v_i : Int := (i64.wrap (v_i + 1))
 some (.inl (v_l, oC, v_i))
 else
 let v_i : Int := (i64.wrap (v_i + 1))
 some (.inl (v_l, oC, v_i))
 else
 some (.inr (v_l, oC, v_i))
def FP (v_s : ByteArray) (v_c : Int) : Option ((List ByteArray)) :=
 let v_l : (List ByteArray) := []
 let oC : Int := 0
 let v_i : Int := 0
 (ah (te v_s v_c) ab (v_l, oC, v_i)).bind fun r4 =>
 let v_l := r4.1
 let oC := r4.2.1
 let v_i := r4.2.2
 (if (decide (oC < (v_s.size : Int))) = true then
 (Su v_s oC).bind fun b6 => (aU v_l [b6]).bind fun b7 => let v_l : (List ByteArray) := b7
 some v_l
 else
 some v_l).bind fun j5 => let v_l := j5
 some v_l
def pG (v_l : (List ByteArray)) (st : (List ByteArray) × Int) : Option (((List ByteArray) × Int) ⊕ (((List ByteArray) × Int))) :=
 let al := st.1
 let v_i := st.2
 if (decide (v_i < (v_l.length : Int))) = true then
 (av v_l v_i).bind fun b2 => if (!(b2.toList == (⟨#[]⟩ : ByteArray).toList)) = true then
 (av v_l v_i).bind fun b3 => (aU al [b3]).bind fun b4 => let al : (List ByteArray) := b4
 let v_i : Int := (i64.wrap (v_i + 1))
 some (.inl (al, v_i))
 else
 let v_i : Int := (i64.wrap (v_i + 1))
 some (.inl (al, v_i))
 else
 some (.inr (al, v_i))
def y7 (v_s : ByteArray) : Option ((List ByteArray)) :=
 let al : (List ByteArray) := []
 (FP v_s 32).bind fun c1 => let v_l : (List ByteArray) := c1
 let v_i : Int := 0
 (ah (pG v_l) ab (al, v_i)).bind fun r5 =>
 let al := r5.1
 let v_i := r5.2
 some al
def n9 (v_s : ByteArray) (st : Int × Int) : Option ((Int × Int) ⊕ ((Int × Int) ⊕ (Int × Bool))) :=
 let v_n := st.1
 let v_i := st.2
 if (decide (v_i < (v_s.size : Int))) = true then
 (kW v_s v_i).bind fun b5 => (if (decide (b5 < 48)) = true then some true else (kW v_s v_i).bind fun b6 => some (decide (b6 > 57))).bind fun q7 => if q7 = true then
 some (.inr (.inr (0, false)))
 else
 (kW v_s v_i).bind fun b8 => let v_n : Int := (i64.wrap ((i64.wrap (v_n * 10)) + (i64.wrap (IntKind.u8.wrap (b8 - 48)))))
 let v_i : Int := (i64.wrap (v_i + 1))
 some (.inl (v_n, v_i))
 else
 some (.inr (.inl (v_n, v_i)))
def o7 (v_s : ByteArray) : Option (Int × Bool) :=
 (if (decide ((v_s.size : Int) < 1)) = true then some true else some (decide ((v_s.size : Int) > 7))).bind fun q1 => (if q1 = true then some true else (kW v_s 0).bind fun b2 => (if (b2 == 48) = true then some (decide ((v_s.size : Int) > 1)) else some false).bind fun q3 => some q3).bind fun q4 => if q4 = true then
 some (0, false)
 else
 let v_n : Int := 0
 let v_i : Int := 0
 (ah (n9 v_s) ab (v_n, v_i)).bind fun r9 => match r9 with
 | .inr m10 => some m10
 | .inl m10 =>
 let v_n := m10.1
 let v_i := m10.2
 some (v_n, true)
def pH (v_s : ByteArray) (st : Int) : Option ((Int) ⊕ ((Int))) :=
 let v_k := st
 (if (decide (v_k < (v_s.size : Int))) = true then (kW v_s v_k).bind fun b1 => some (b1 != 47) else some false).bind fun q2 => if q2 = true then
 let v_k : Int := (i64.wrap (v_k + 1))
 some (.inl v_k)
 else
 some (.inr v_k)
def y8 (v_s : ByteArray) : Option (ei × Bool) :=
 let v_k : Int := 0
 (ah (pH v_s) ab v_k).bind fun r3 =>
 let v_k := r3
 if (v_k == (v_s.size : Int)) = true then
 some ((⟨0, 0⟩ : ei), false)
 else
 (Oe v_s v_k).bind fun b4 => (o7 b4).bind fun c5 => let v_a : Int := c5.1
 let v_p : Bool := c5.2
 (Su v_s (i64.wrap (v_k + 1))).bind fun b6 => (o7 b6).bind fun c7 => let v_b : Int := c7.1
 let v_q : Bool := c7.2
 (if v_p = true then some v_q else some false).bind fun q8 => some ((⟨v_a, v_b⟩ : ei), q8)
def pI (v_w : (List ByteArray)) (st : Bool × az × Int) : Option ((Bool × az × Int) ⊕ ((Bool × az × Int))) :=
 let ek := st.1
 let v_q := st.2.1
 let v_i := st.2.2
 (if (decide (v_i < (v_w.length : Int))) = true then some ek else some false).bind fun q6 => if q6 = true then
 let v_c : ei := (⟨0, 0⟩ : ei)
 (av v_w v_i).bind fun b7 => (y8 b7).bind fun c8 => let v_c : ei := c8.1
 let ek : Bool := c8.2
 (aU v_q.bl [v_c]).bind fun b9 => let v_q : az := { v_q with bl := b9 }
 let v_i : Int := (i64.wrap (v_i + 1))
 some (.inl (ek, v_q, v_i))
 else
 some (.inr (ek, v_q, v_i))
def y9 (v_w : (List ByteArray)) (rn : Int) : Option (az × Bool) :=
 (if ((v_w.length : Int) != (i64.wrap (3 + rn))) = true then some true else (av v_w 0).bind fun b1 => some (!(b1.toList == (⟨#[113, 117, 101, 117, 101]⟩ : ByteArray).toList))).bind fun q2 => if q2 = true then
 some ((⟨⟨#[]⟩, [], 0⟩ : az), false)
 else
 (av v_w 2).bind fun b3 => (o7 b3).bind fun c4 => let v_n : Int := c4.1
 let ek : Bool := c4.2
 (av v_w 1).bind fun b5 => let v_q : az := (⟨b5, [], v_n⟩ : az)
 let v_i : Int := 3
 (ah (pI v_w) ab (ek, v_q, v_i)).bind fun r10 =>
 let ek := r10.1
 let v_q := r10.2.1
 let v_i := r10.2.2
 some (v_q, ek)
def pJ (v_c : aw) (v_q : az) (st : Int) : Option ((Int) ⊕ ((Int))) :=
 let v_k := st
 (if (decide (v_k < (v_c.ae.length : Int))) = true then (av v_c.ae v_k).bind fun b10 => some (Op.bytesLess b10.aF.toList v_q.aF.toList) else some false).bind fun q11 => if q11 = true then
 let v_k : Int := (i64.wrap (v_k + 1))
 some (.inl v_k)
 else
 some (.inr v_k)
def pK (v_l : (List ByteArray)) (st : aw × Bool × Int) : Option ((aw × Bool × Int) ⊕ ((aw × Bool × Int) ⊕ (aw × Int))) :=
 let v_c := st.1
 let mW := st.2.1
 let v_i := st.2.2
 if (decide (v_i < (v_l.length : Int))) = true then
 (av v_l v_i).bind fun b2 => (y7 b2).bind fun c3 => let v_w : (List ByteArray) := c3
 if ((v_w.length : Int) == 0) = true then
 let v_i : Int := (i64.wrap (v_i + 1))
 some (.inl (v_c, mW, v_i))
 else
 if ((v_c.ak.length : Int) == 0) = true then
 (av v_w 0).bind fun b4 => if (!(b4.toList == (⟨#[108, 97, 98, 101, 108, 115]⟩ : ByteArray).toList)) = true then
 some (.inr (.inr ((⟨[], []⟩ : aw), 6)))
 else
 if (decide ((v_w.length : Int) > 3)) = true then
 some (.inr (.inr ((⟨[], []⟩ : aw), 4)))
 else
 (loO v_w 1).bind fun b5 => (aU ([(⟨#[]⟩ : ByteArray)] : (List ByteArray)) b5).bind fun b6 => let v_c : aw := { v_c with ak := b6 }
 let v_i : Int := (i64.wrap (v_i + 1))
 some (.inl (v_c, mW, v_i))
 else
 (if ((v_c.ae.length : Int) == 16) = true then (av v_w 0).bind fun b7 => some (b7.toList == (⟨#[113, 117, 101, 117, 101]⟩ : ByteArray).toList) else some false).bind fun q8 => if q8 = true then
 some (.inr (.inr ((⟨[], []⟩ : aw), 4)))
 else
 (y9 v_w (v_c.ak.length : Int)).bind fun c9 => let v_q : az := c9.1
 let ek : Bool := c9.2
 if (!ek) = true then
 some (.inr (.inr ((⟨[], []⟩ : aw), 6)))
 else
 let v_k : Int := 0
 (ah (pJ v_c v_q) ab v_k).bind fun r12 =>
 let v_k := r12
 (if mW = true then some true else (if (decide (v_k < (v_c.ae.length : Int))) = true then (av v_c.ae v_k).bind fun b13 => some (b13.aF.toList == v_q.aF.toList) else some false).bind fun q14 => some q14).bind fun q15 => let mW : Bool := q15
 (hiO v_c.ae v_k).bind fun b16 => (aU ([] : (List az)) b16).bind fun b17 => let v_x : (List az) := b17
 (aU v_x [v_q]).bind fun b18 => (loO v_c.ae v_k).bind fun b19 => (aU b18 b19).bind fun b20 => let v_c : aw := { v_c with ae := b20 }
 let v_i : Int := (i64.wrap (v_i + 1))
 some (.inl (v_c, mW, v_i))
 else
 some (.inr (.inl (v_c, mW, v_i)))
def zc (v_s : ByteArray) : Option (aw × Int) :=
 if (decide ((v_s.size : Int) > 2000)) = true then
 some ((⟨[], []⟩ : aw), 5)
 else
 let v_c : aw := (⟨[], []⟩ : aw)
 let mW : Bool := false
 (FP v_s 10).bind fun c1 => let v_l : (List ByteArray) := c1
 let v_i : Int := 0
 (ah (pK v_l) ab (v_c, mW, v_i)).bind fun r21 => match r21 with
 | .inr m22 => some m22
 | .inl m22 =>
 let v_c := m22.1
 let mW := m22.2.1
 let v_i := m22.2.2
 if ((v_c.ak.length : Int) == 0) = true then
 some ((⟨[], []⟩ : aw), 6)
 else
 if mW = true then
 some ((⟨[], []⟩ : aw), 7)
 else
 some (v_c, 0)
def dn : Nat → Int → Option (ByteArray)
 | 0 => fun _ => none
 | fuel + 1 => fun v_n =>
 let self := dn fuel
 if (decide (v_n < 0)) = true then
 if (v_n == (-9223372036854775808)) = true then
 some (⟨#[45, 57, 50, 50, 51, 51, 55, 50, 48, 51, 54, 56, 53, 52, 55, 55, 53, 56, 48, 56]⟩ : ByteArray)
 else
 (self (i64.wrap (0 - v_n))).bind fun c1 => (me (⟨#[45]⟩ : ByteArray) c1).bind fun b2 => some b2
 else
 if (decide (v_n ≥ 10)) = true then
 (self (i64.wrap (Int.tdiv v_n 10))).bind fun c3 => (self (Int.tmod v_n 10)).bind fun c4 => (me c3 c4).bind fun b5 => some b5
 else
 (Xy ([(IntKind.u8.wrap (i64.wrap (48 + v_n)))] : (List Int))).bind fun b6 => some b6
def qU (v_c : aw) (st : ByteArray × Int) : Option ((ByteArray × Int) ⊕ ((ByteArray × Int))) :=
 let al := st.1
 let v_i := st.2
 if (decide (v_i < (v_c.ak.length : Int))) = true then
 (me al (⟨#[32]⟩ : ByteArray)).bind fun b1 => (av v_c.ak v_i).bind fun b2 => (me b1 b2).bind fun b3 => let al : ByteArray := b3
 let v_i : Int := (i64.wrap (v_i + 1))
 some (.inl (al, v_i))
 else
 some (.inr (al, v_i))
def qS (v_q : az) (st : ByteArray × Int) : Option ((ByteArray × Int) ⊕ ((ByteArray × Int))) :=
 let al := st.1
 let v_k := st.2
 if (decide (v_k < (v_q.bl.length : Int))) = true then
 (me al (⟨#[32]⟩ : ByteArray)).bind fun b12 => (av v_q.bl v_k).bind fun b13 => (dn ab b13.kt).bind fun c14 => (me b12 c14).bind fun b15 => (me b15 (⟨#[47]⟩ : ByteArray)).bind fun b16 => (av v_q.bl v_k).bind fun b17 => (dn ab b17.rN).bind fun c18 => (me b16 c18).bind fun b19 => let al : ByteArray := b19
 let v_k : Int := (i64.wrap (v_k + 1))
 some (.inl (al, v_k))
 else
 some (.inr (al, v_k))
def qT (v_c : aw) (st : ByteArray × Int) : Option ((ByteArray × Int) ⊕ ((ByteArray × Int))) :=
 let al := st.1
 let aI := st.2
 if (decide (aI < (v_c.ae.length : Int))) = true then
 (av v_c.ae aI).bind fun b6 => let v_q : az := b6
 (me al (⟨#[113, 117, 101, 117, 101, 32]⟩ : ByteArray)).bind fun b7 => (me b7 v_q.aF).bind fun b8 => (me b8 (⟨#[32]⟩ : ByteArray)).bind fun b9 => (dn ab v_q.cW).bind fun c10 => (me b9 c10).bind fun b11 => let al : ByteArray := b11
 let v_k : Int := 0
 (ah (qS v_q) ab (al, v_k)).bind fun r20 =>
 let al := r20.1
 let v_k := r20.2
 (me al (⟨#[10]⟩ : ByteArray)).bind fun b21 => let al : ByteArray := b21
 let aI : Int := (i64.wrap (aI + 1))
 some (.inl (al, aI))
 else
 some (.inr (al, aI))
def za (v_c : aw) : Option (ByteArray) :=
 let al : ByteArray := (⟨#[108, 97, 98, 101, 108, 115]⟩ : ByteArray)
 let v_i : Int := 1
 (ah (qU v_c) ab (al, v_i)).bind fun r4 =>
 let al := r4.1
 let v_i := r4.2
 (me al (⟨#[10]⟩ : ByteArray)).bind fun b5 => let al : ByteArray := b5
 let aI : Int := 0
 (ah (qT v_c) ab (al, aI)).bind fun r22 =>
 let al := r22.1
 let aI := r22.2
 some al
def qX (v_a : aw) (v_b : aw) (st : Int) : Option ((Int) ⊕ ((Int) ⊕ (Bool))) :=
 let v_i := st
 if (decide (v_i < (v_a.ak.length : Int))) = true then
 (av v_a.ak v_i).bind fun b2 => (av v_b.ak v_i).bind fun b3 => if (!(b2.toList == b3.toList)) = true then
 some (.inr (.inr false))
 else
 let v_i : Int := (i64.wrap (v_i + 1))
 some (.inl v_i)
 else
 some (.inr (.inl v_i))
def qV (v_x : az) (v_y : az) (st : Int) : Option ((Int) ⊕ ((Int) ⊕ (Bool))) :=
 let v_k := st
 if (decide (v_k < (v_x.bl.length : Int))) = true then
 (av v_x.bl v_k).bind fun b12 => (av v_y.bl v_k).bind fun b13 => if (!((b12.kt == b13.kt) && (b12.rN == b13.rN))) = true then
 some (.inr (.inr false))
 else
 let v_k : Int := (i64.wrap (v_k + 1))
 some (.inl v_k)
 else
 some (.inr (.inl v_k))
def qW (v_a : aw) (v_b : aw) (st : Int) : Option ((Int) ⊕ ((Int) ⊕ (Bool))) :=
 let aI := st
 if (decide (aI < (v_a.ae.length : Int))) = true then
 (av v_a.ae aI).bind fun b6 => (av v_b.ae aI).bind fun b7 => let t8 : az := b6
 let t9 : az := b7
 let v_x : az := t8
 let v_y : az := t9
 (if (!(v_x.aF.toList == v_y.aF.toList)) = true then some true else some (v_x.cW != v_y.cW)).bind fun q10 => (if q10 = true then some true else some ((v_x.bl.length : Int) != (v_y.bl.length : Int))).bind fun q11 => if q11 = true then
 some (.inr (.inr false))
 else
 let v_k : Int := 0
 (ah (qV v_x v_y) ab v_k).bind fun r14 => match r14 with
 | .inr m15 => some (.inr (.inr m15))
 | .inl m15 =>
 let v_k := m15
 let aI : Int := (i64.wrap (aI + 1))
 some (.inl aI)
 else
 some (.inr (.inl aI))
def DD (v_a : aw) (v_b : aw) : Option (Bool) :=
 (if ((v_a.ak.length : Int) != (v_b.ak.length : Int)) = true then some true else some ((v_a.ae.length : Int) != (v_b.ae.length : Int))).bind fun q1 => if q1 = true then
 some false
 else
 let v_i : Int := 0
 (ah (qX v_a v_b) ab v_i).bind fun r4 => match r4 with
 | .inr m5 => some m5
 | .inl m5 =>
 let v_i := m5
 let aI : Int := 0
 (ah (qW v_a v_b) ab aI).bind fun r16 => match r16 with
 | .inr m17 => some m17
 | .inl m17 =>
 let aI := m17
 some true
end Go.Proofs.YtmjkjaahbgikjaaGreat
