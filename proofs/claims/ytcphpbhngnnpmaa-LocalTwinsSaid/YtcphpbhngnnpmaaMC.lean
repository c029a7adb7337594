/- Texts Ve, Vf, Vg, Vh, Vi, Vj, GeC, Vl, Vlt, Vk, Vm, Vn, Vo, Vp, Vq, Vr, in one. -/
import Derived.Test.YtcphpbhngnnpmaaMB
/- The typed executor: states that are turned; operations that read. -/
namespace Go.Proofs.Ytcphpbhngnnpmaa
open Go.RowKit

/-! ### States that are turned -/
variable {B : List (Nat × Option SBox)} {s : SS} {p : PS}
theorem sim_no (hs : Sim s p) {dst : Option Nat} {v : SV} {q : PV} (hv : VSim s.bx v q) : Sim (s.upd dst v .no) (p.upd dst q none) := by
  refine ⟨fun i => ?_, fun t => hs.bx t⟩
  show VSim s.bx (lkV (updS s.sl dst v) i) (tupd p.t dst q i)
  rw [lkV_upd]
  unfold tupd
  split
  · exact hv
  · exact hs.sl i
theorem sim_boxes {sl : List (Nat × SV)} {pr oc : List Nat} {ro : Bool} {dst : Option Nat} {v : SV} {q : PV} {B' : List (Nat × Option SBox)} {u : Option (Nat × Box)} (h1 : ∀ i, dst ≠ some i → VSim B' (lkV sl i) (p.t i)) (h2 : ∀ t, BSim B' (memN oc t) (lkB B' t) (bupd p.b u t)) (hv : VSim B' v q) :
    Sim ⟨updS sl dst v, B', pr, ro, oc⟩ (p.upd dst q u) := by
  refine ⟨fun i => ?_, h2⟩
  show VSim B' (lkV (updS sl dst v) i) (tupd p.t dst q i)
  rw [lkV_upd]
  unfold tupd
  split
  · exact hv
  · rename_i h; exact h1 i h
theorem sim_box (hs : Sim s p) {pr : List Nat} {ro : Bool} {dst : Option Nat} {v : SV} {q : PV} {t : Nat} {b : SBox} {b' : Box} (hB : BLe s.bx ((t, some b) :: s.bx)) (hb : ∀ oc, BSim ((t, some b) :: s.bx) oc (some b) (some b')) (hv : VSim ((t, some b) :: s.bx) v q) :
    Sim ⟨updS s.sl dst v, (t, some b) :: s.bx, pr, ro, s.oc⟩ (p.upd dst q (some (t, b'))) := by
  refine sim_boxes (fun i _ => (hs.sl i).mono hB) (fun t' => ?_) hv
  rw [lkB_cons]
  simp only [bupd]
  split
  · exact hb _
  · exact (hs.bx t').mono hB
theorem sim_pin (hs : Sim s p) {pr : List Nat} {ro : Bool} {dst : Option Nat} {v : SV} {q : PV} {t : Nat} {b : SBox} (hB : BLe s.bx ((t, some b) :: s.bx)) (hb : ∀ oc, BSim ((t, some b) :: s.bx) oc (some b) (p.b t)) (hv : VSim ((t, some b) :: s.bx) v q) :
    Sim ⟨updS s.sl dst v, (t, some b) :: s.bx, pr, ro, s.oc⟩ (p.upd dst q none) := by
  refine sim_boxes (fun i _ => (hs.sl i).mono hB) (fun t' => ?_) hv
  rw [lkB_cons]
  simp only [bupd]
  split
  · rename_i h; subst h; exact hb _
  · exact (hs.bx t').mono hB
theorem ble_new {b : SBox} {t : Nat} (h : lkB B t = none) : BLe B ((t, some b) :: B) := by
  refine ⟨fun t' e k ty xs pins h1 => ?_, fun t' ty cs h1 => ?_⟩
  · have : ¬ t' = t := fun e => by rw [e, h] at h1; cases h1
    exact ⟨e, k, ty, xs, pins, by rw [lkB_cons, if_neg this]; exact h1, rfl, fun _ pin hp => ⟨pin, hp, rfl⟩⟩
  · have : ¬ t' = t := fun e => by rw [e, h] at h1; cases h1
    exact ⟨ty, cs, by rw [lkB_cons, if_neg this]; exact h1⟩
theorem ble_st {ty ty' : TypeId} {cs cs' : List SV} {t : Nat} (h : lkB B t = some (.st ty cs)) : BLe B ((t, some (.st ty' cs')) :: B) := by
  refine ⟨fun t' e k ty xs pins h1 => ?_, fun t' ty2 cs2 h1 => ?_⟩
  · have : ¬ t' = t := fun e => by rw [e, h] at h1; cases h1
    exact ⟨e, k, ty, xs, pins, by rw [lkB_cons, if_neg this]; exact h1, rfl, fun _ pin hp => ⟨pin, hp, rfl⟩⟩
  · rw [lkB_cons]
    split
    · exact ⟨_, _, rfl⟩
    · exact ⟨_, _, h1⟩
theorem ble_rw {e k : Nat} {ty : Ty} {xs xs' : List ty.den} {pins pins' : List (Nat × Pin)} {t : Nat} (h : lkB B t = some (.rw e k ty xs pins)) (hl : xs'.length = xs.length) (hp : ∀ p pin, lkP pins p = some pin → ∃ pin', lkP pins' p = some pin' ∧ pin'.i = pin.i) : BLe B ((t, some (.rw e k ty xs' pins')) :: B) := by
  refine ⟨fun t' e2 k2 ty2 xs2 pins2 h1 => ?_, fun t' ty2 cs2 h1 => ?_⟩
  · rw [lkB_cons]
    split
    · rename_i ht
      subst ht
      rw [h] at h1
      injection h1 with h1
      injection h1 with e1 e2 e3 e4 e5
      subst e3
      have e4 := eq_of_heq e4
      subst e4 e5
      exact ⟨e, k, ty, xs', pins', rfl, hl, hp⟩
    · exact ⟨e2, k2, ty2, xs2, pins2, h1, rfl, fun _ pin hp => ⟨pin, hp, rfl⟩⟩
  · have : ¬ t' = t := fun e => by rw [e, h] at h1; cases h1
    exact ⟨_, _, by rw [lkB_cons, if_neg this]; exact h1⟩
/-- What has grown is forgotten. -/
def staleBox (t : Nat) : SBox → SBox
  | .st ty cs => .st ty (stales t cs)
  | b => b
theorem lkB_stale (t : Nat) : ∀ (l : List (Nat × Option SBox)) (i : Nat), lkB (staleB t l) i = (lkB l i).map (staleBox t)
  | [], _ => rfl
  | (j, none) :: l, i => by simp only [staleB, lkB_cons, lkB_stale t l i]; split <;> rfl
  | (j, some (.st ty cs)) :: l, i => by simp only [staleB, lkB_cons, lkB_stale t l i]; split <;> rfl
  | (j, some (.rw e k ty xs pins)) :: l, i => by simp only [staleB, lkB_cons, lkB_stale t l i]; split <;> rfl
theorem lkV_stale (t : Nat) : ∀ (l : List (Nat × SV)) (i : Nat), lkV (staleS t l) i = stale t (lkV l i)
  | [], _ => rfl
  | (j, v) :: l, i => by simp only [staleS, lkV_cons, lkV_stale t l i]; split <;> rfl
theorem stales_get (t : Nat) : ∀ (cs : List SV) (j : Nat), (stales t cs)[j]? = (cs[j]?).map (stale t)
  | [], j => by simp [stales]
  | c :: cs, 0 => by simp [stales]
  | c :: cs, j + 1 => by simpa [stales] using stales_get t cs j
theorem stales_len (t : Nat) : ∀ cs : List SV, (stales t cs).length = cs.length
  | [] => rfl
  | c :: cs => by simp [stales, stales_len t cs]
/-- All rows but t are as they were; structs are there. -/
structure BLeX (t : Nat) (B B' : List (Nat × Option SBox)) : Prop where
  rw : ∀ t', t' ≠ t → ∀ e k ty xs pins, lkB B t' = some (.rw e k ty xs pins) → lkB B' t' = some (.rw e k ty xs pins)
  st : ∀ t' ty cs, lkB B t' = some (.st ty cs) → ∃ ty' cs', lkB B' t' = some (.st ty' cs')
theorem VSim.stale {B' : List (Nat × Option SBox)} {t : Nat} {v : SV} {q : PV} (h : VSim B v q) (hB : BLeX t B B') : VSim B' (stale t v) q := by
  induction h with
  | junk q => exact .junk q
  | d c y h => exact .d c y h
  | ag cs qs hl hr ih =>
    refine .ag _ qs (by rw [stales_len]; exact hl) (fun j c q h1 h2 => ?_)
    rw [stales_get, Option.map_eq_some_iff] at h1
    obtain ⟨c', h3, rfl⟩ := h1
    exact ih j c' q h3 h2
  | tup cs qs hl hr ih =>
    refine .tup _ qs (by rw [stales_len]; exact hl) (fun j c q h1 h2 => ?_)
    rw [stales_get, Option.map_eq_some_iff] at h1
    obtain ⟨c', h3, rfl⟩ := h1
    exact ih j c' q h3 h2
  | ptr t' o ty cs hb => obtain ⟨ty', cs', h1⟩ := hB.st t' ty cs hb; exact .ptr t' o ty' cs' h1
  | row t' n e k ty xs pins hb hn =>
    simp only [Go.Proofs.Ytcphpbhngnnpmaa.stale, beq_spec]
    by_cases h : t' = t
    · simp only [h, decide_true]; exact .junk _
    · simp only [h, decide_false]; exact .row t' n e k ty xs pins (hB.rw t' h _ _ _ _ _ hb) hn
  | re t' p o n i e k ty xs pins pin hb hn hp hi =>
    simp only [Go.Proofs.Ytcphpbhngnnpmaa.stale, beq_spec]
    by_cases h : t' = t
    · simp only [h, decide_true]; exact .junk _
    · simp only [h, decide_false]; exact .re t' p o n i e k ty xs pins pin (hB.rw t' h _ _ _ _ _ hb) hn hp hi
  | fe cs ds h hn => exact .fe cs ds h hn
theorem CSim.stale {B' : List (Nat × Option SBox)} {t : Nat} {cs : List SV} {qs : List PV} (h : CSim B cs qs) (hB : BLeX t B B') : CSim B' (stales t cs) qs :=
  ⟨by rw [stales_len]; exact h.len, fun j c q h1 h2 => by
    rw [stales_get, Option.map_eq_some_iff] at h1
    obtain ⟨c', h3, rfl⟩ := h1
    exact (h.rep j c' q h3 h2).stale hB⟩
theorem sim_grow (hs : Sim s p) {dst : Option Nat} {v : SV} {q : PV} {t e k : Nat} {ty : Ty} {zs xs0 : List ty.den} {pins0 : List (Nat × Pin)} (h0 : lkB s.bx t = some (.rw e k ty xs0 pins0)) (hv : VSim ((t, some (.rw e k ty zs [])) :: staleB t s.bx) v q) :
    Sim (s.upd dst v (.grow t (.rw e k ty zs []))) (p.upd dst q (some (t, .rw e k (zs.map (encE ty))))) := by
  have hX : BLeX t s.bx ((t, some (.rw e k ty zs [])) :: staleB t s.bx) := by
    refine ⟨fun t' ht e2 k2 ty2 xs2 pins2 h => ?_, fun t' ty2 cs2 h => ?_⟩
    · rw [lkB_cons, if_neg ht, lkB_stale, h]
      rfl
    · have : ¬ t' = t := fun e => by rw [e, h0] at h; cases h
      rw [lkB_cons, if_neg this, lkB_stale, h]
      exact ⟨_, _, rfl⟩
  refine sim_boxes (fun i _ => ?_) (fun t' => ?_) hv
  · rw [lkV_stale]
    exact (hs.sl i).stale hX
  · rw [lkB_cons]
    simp only [bupd]
    split
    · exact ⟨rfl, fun p pin h => by cases h⟩
    · rename_i ht
      rw [lkB_stale]
      have h := hs.bx t'
      cases hb : lkB s.bx t' with
      | none => rw [hb] at h; exact h
      | some b =>
        rw [hb] at h
        cases b with
        | st ty2 cs => obtain ⟨qs, h1, h2⟩ := h; exact ⟨qs, h1, h2.stale hX⟩
        | rw e2 k2 ty2 xs2 pins2 => exact h

/-! ### What is written -/
/-- The same box, but for its pins. -/
def SameB : Option SBox → Option SBox → Prop
  | some (.rw e k ty xs _), b => ∃ pins', b = some (.rw e k ty xs pins')
  | a, b => b = a
theorem SameB.refl (a : Option SBox) : SameB a a := by
  match a with
  | none => rfl
  | some (.st _ _) => rfl
  | some (.rw _ _ _ _ pins) => exact ⟨pins, rfl⟩
theorem SameB.trans {a b c : Option SBox} (h : SameB a b) (h' : SameB b c) : SameB a c := by
  match a, h with
  | none, h => cases h; exact h'
  | some (.st _ _), h => cases h; exact h'
  | some (.rw _ _ _ _ _), ⟨pins, h⟩ =>
    subst h
    obtain ⟨pins', h'⟩ := h'
    exact ⟨pins', h'⟩
mutual
/-- Nothing of it hangs on a row that may be written. -/
def safeK (pr : List Nat) : SV → Bool
  | .row t => memN pr t
  | .re _ _ _ => false
  | .ag cs => safesK pr cs
  | .tup cs => safesK pr cs
  | _ => true
def safesK (pr : List Nat) : List SV → Bool
  | [] => true
  | c :: cs => safeK pr c && safesK pr cs
end
structure Keep (sc W : List Nat) (s s' : SS) : Prop where
  pr : s'.pr = s.pr
  ro : s'.ro = s.ro
  bx : ∀ t, memN s.pr t = true → SameB (lkB s.bx t) (lkB s'.bx t)
  sl : ∀ i, memN W i = false → safeK s.pr (lkV s.sl i) = true → lkV s'.sl i = lkV s.sl i
  st : ∀ t, memN sc t = true → ∀ ty cs, lkB s.bx t = some (.st ty cs) → ∃ cs', lkB s'.bx t = some (.st ty cs') ∧ cs'.length = cs.length
variable {sc : List Nat}
theorem Keep.refl (W : List Nat) (s : SS) : Keep sc W s s := ⟨rfl, rfl, fun _ _ => .refl _, fun _ _ _ => rfl, fun _ _ _ cs h => ⟨cs, h, rfl⟩⟩
theorem Keep.trans {W : List Nat} {s s' s'' : SS} (h : Keep sc W s s') (h' : Keep sc W s' s'') : Keep sc W s s'' :=
  ⟨h'.pr.trans h.pr, h'.ro.trans h.ro, fun t ht => (h.bx t ht).trans (h'.bx t (by rw [h.pr]; exact ht)), fun i hi hsf => by
    have e := h.sl i hi hsf
    rw [h'.sl i hi (by rw [e, h.pr]; exact hsf), e], fun t ht ty cs h1 => by
    obtain ⟨cs1, h2, h3⟩ := h.st t ht ty cs h1
    obtain ⟨cs2, h4, h5⟩ := h'.st t ht ty cs1 h2
    exact ⟨cs2, h4, h5.trans h3⟩⟩
theorem Keep.wide {W W' : List Nat} {s s' : SS} (h : Keep sc W s s') (hW : ∀ i, memN W i = true → memN W' i = true) : Keep sc W' s s' :=
  ⟨h.pr, h.ro, h.bx, fun i hi hsf => h.sl i (by cases e : memN W i; rfl; rw [hW i e] at hi; cases hi) hsf, h.st⟩
theorem wrB_spec {s : SS} {t : Nat} (h : wrB s t = true) : s.ro = false ∧ memN s.pr t = false := by
  unfold wrB at h
  split at h
  · cases h
  · rename_i h1; exact ⟨h1, by simpa using h⟩
theorem newB_spec {s : SS} {t : Nat} (h : newB s t = true) : memN s.oc t = false ∧ memN s.pr t = false := by
  unfold newB at h
  split at h
  · cases h
  · rename_i h1; exact ⟨h1, by simpa using h⟩
def OkU (s : SS) : Upd → Prop
  | .no => True
  | .new t _ => memN s.pr t = false ∧ lkB s.bx t = none
  | .set t b => memN s.pr t = false ∧ ∀ ty cs, lkB s.bx t = some (.st ty cs) → ∃ cs', b = .st ty cs' ∧ cs'.length = cs.length
  | .grow t _ => memN s.pr t = false ∧ ∀ ty cs, lkB s.bx t ≠ some (.st ty cs)
  | .pin t b => SameB (lkB s.bx t) (some b)
/-- What is written is new, or may be written. -/
def OkW (s : SS) (dst : Option Nat) (w : Option (Nat × Box)) : Prop := ∀ t b, w = some (t, b) → (lkB s.bx t = none ∧ dst = some t) ∨ s.ro = false
theorem okW_none {s : SS} {dst : Option Nat} : OkW s dst none := fun _ _ h => by cases h
theorem okW_new {s : SS} {dst : Option Nat} {t : Nat} {b : Box} (h : lkB s.bx t = none) (hd : dst = some t) : OkW s dst (some (t, b)) := fun t' b' e => by injection e with e; injection e with e1 e2; subst e1; exact .inl ⟨h, hd⟩
theorem okW_wr {s : SS} {dst : Option Nat} {w : Option (Nat × Box)} (h : s.ro = false) : OkW s dst w := fun _ _ _ => .inr h
theorem not_of_mem {pr : List Nat} {t t' : Nat} (ht : memN pr t = false) (h : memN pr t' = true) : ¬ t' = t := fun e => by rw [e, ht] at h; cases h
mutual
theorem stale_safe {pr : List Nat} {t : Nat} (ht : memN pr t = false) : ∀ v : SV, safeK pr v = true → stale t v = v
  | .junk, _ => rfl
  | .d _, _ => rfl
  | .fe _, _ => rfl
  | .ptr _ _, _ => rfl
  | .row t', h => by
    have := not_of_mem ht (show memN pr t' = true from h)
    simp only [stale, beq_spec, this, decide_false]
  | .re _ _ _, h => by cases h
  | .ag cs, h => by simp only [stale]; rw [stales_safe ht cs h]
  | .tup cs, h => by simp only [stale]; rw [stales_safe ht cs h]
theorem stales_safe {pr : List Nat} {t : Nat} (ht : memN pr t = false) : ∀ cs : List SV, safesK pr cs = true → stales t cs = cs
  | [], _ => rfl
  | c :: cs, h => by
    simp only [safesK, Bool.and_eq_true] at h
    simp only [stales]
    rw [stale_safe ht c h.1, stales_safe ht cs h.2]
end
mutual
theorem stale_norow {t : Nat} : ∀ v : SV, norow v = true → stale t v = v
  | .junk, _ => rfl
  | .d _, _ => rfl
  | .fe _, _ => rfl
  | .ptr _ _, _ => rfl
  | .row _, h => by cases h
  | .re _ _ _, h => by cases h
  | .ag cs, h => by simp only [stale]; rw [stales_norow cs h]
  | .tup cs, h => by simp only [stale]; rw [stales_norow cs h]
theorem stales_norow {t : Nat} : ∀ cs : List SV, norows cs = true → stales t cs = cs
  | [], _ => rfl
  | c :: cs, h => by
    simp only [norows] at h
    split at h
    · rename_i h1
      simp only [stales]
      rw [stale_norow c h1, stales_norow cs h]
    · cases h
end
/-- What may not be written is plain. -/
def PrOk (s : SS) : Prop := ∀ t, memN s.pr t = true → ∃ b, lkB s.bx t = some b ∧ plainBox b = true
theorem Keep.prOk {W : List Nat} {s s' : SS} (h : Keep sc W s s') (hp : PrOk s) : PrOk s' := by
  intro t ht
  rw [h.pr] at ht
  obtain ⟨b, h1, h2⟩ := hp t ht
  have := h.bx t ht
  rw [h1] at this
  cases b with
  | st ty cs => exact ⟨_, this, h2⟩
  | rw e k ty xs pins =>
    obtain ⟨pins', h3⟩ := this
    exact ⟨_, h3, rfl⟩
theorem keep_upd {W : List Nat} {dst : Option Nat} {v : SV} {u : Upd} (hu : OkU s u) (hW : ∀ d, dst = some d → memN W d = true) (hpr : PrOk s) : Keep sc W s (s.upd dst v u) := by
  have sl : ∀ i, memN W i = false → lkV (updS s.sl dst v) i = lkV s.sl i := fun i hi => by
    rw [lkV_upd, if_neg (fun e => by rw [hW i e] at hi; cases hi)]
  have one : ∀ t b, memN s.pr t = false → ∀ t', memN s.pr t' = true → SameB (lkB s.bx t') (lkB ((t, some b) :: s.bx) t') := fun t b ht t' ht' => by
    rw [lkB_cons, if_neg (fun e => by rw [e, ht] at ht'; cases ht')]
    exact .refl _
  cases u with
  | no => exact ⟨rfl, rfl, fun _ _ => .refl _, fun i hi _ => sl i hi, fun _ _ _ cs h => ⟨cs, h, rfl⟩⟩
  | new t b =>
    refine ⟨rfl, rfl, one t b hu.1, fun i hi _ => sl i hi, fun t' _ ty cs h => ⟨cs, ?_, rfl⟩⟩
    show lkB ((t, some b) :: s.bx) t' = _
    rw [lkB_cons, if_neg (fun e => by rw [e, hu.2] at h; cases h)]
    exact h
  | set t b =>
    refine ⟨rfl, rfl, one t b hu.1, fun i hi _ => sl i hi, fun t' _ ty cs h => ?_⟩
    show ∃ cs', lkB ((t, some b) :: s.bx) t' = _ ∧ _
    rw [lkB_cons]
    by_cases e : t' = t
    · rw [if_pos e]
      rw [e] at h
      obtain ⟨cs', h1, h2⟩ := hu.2 ty cs h
      exact ⟨cs', by rw [h1], h2⟩
    · rw [if_neg e]; exact ⟨cs, h, rfl⟩
  | pin t b =>
    refine ⟨rfl, rfl, fun t' _ => ?_, fun i hi _ => sl i hi, fun t' _ ty cs h => ?_⟩
    · show SameB _ (lkB ((t, some b) :: s.bx) t')
      rw [lkB_cons]
      split
      · rename_i e; subst e; exact hu
      · exact .refl _
    · show ∃ cs', lkB ((t, some b) :: s.bx) t' = _ ∧ _
      rw [lkB_cons]
      by_cases e : t' = t
      · rw [if_pos e]
        have hu : SameB (lkB s.bx t) (some b) := hu
        rw [← e, h] at hu
        exact ⟨cs, hu, rfl⟩
      · rw [if_neg e]; exact ⟨cs, h, rfl⟩
  | grow t b =>
    refine ⟨rfl, rfl, fun t' ht' => ?_, fun i hi hsf => ?_, fun t' _ ty cs h => ?_⟩
    · show SameB _ (lkB ((t, some b) :: staleB t s.bx) t')
      rw [lkB_cons, if_neg (fun e => by rw [e, hu.1] at ht'; cases ht'), lkB_stale]
      obtain ⟨b', h1, h2⟩ := hpr t' ht'
      rw [h1]
      cases b' with
      | st ty cs => simp only [Option.map_some, staleBox]; rw [stales_norow cs h2]; rfl
      | rw e k ty xs pins => exact ⟨pins, rfl⟩
    · show lkV (updS (staleS t s.sl) dst v) i = _
      rw [lkV_upd, if_neg (fun e => by rw [hW i e] at hi; cases hi), lkV_stale]
      exact stale_safe hu.1 _ hsf
    · show ∃ cs', lkB ((t, some b) :: staleB t s.bx) t' = _ ∧ _
      rw [lkB_cons, if_neg (fun e => hu.2 ty cs (by rw [← e]; exact h)), lkB_stale, h]
      exact ⟨_, rfl, stales_len t cs⟩
end Go.Proofs.Ytcphpbhngnnpmaa

/- The typed executor: each operation is the pure machine's. -/
namespace Go.Proofs.Ytcphpbhngnnpmaa
open Go.RowKit

variable {B : List (Nat × Option SBox)} {s : SS} {p : PS} {P : Program} {ρ : Type}
/-! ### Operands -/
theorem cellV_sim {v : Value} {c : SD} (h : cellV v = some c) : DSim c (.v v) ∧ v.oneCell' = true := by
  unfold cellV at h
  split at h
  · injection h with h; subst h; exact ⟨rfl, rfl⟩
  · injection h with h; subst h; exact ⟨rfl, rfl⟩
  · injection h with h; subst h; exact ⟨rfl, rfl⟩
  · injection h with h; subst h; exact ⟨rfl, rfl⟩
  · cases h
theorem cellsV_sim {B : List (Nat × Option SBox)} : ∀ {l : List Value} {cs : List SV}, cellsV l = some cs → CSim B cs (l.map fun x => .d (.v x)) ∧ ∀ x ∈ l, x.oneCell' = true
  | [], cs, h => by injection h with h; subst h; exact ⟨.nil, fun x hx => by cases hx⟩
  | v :: l, cs, h => by
    simp only [cellsV] at h
    split at h
    · rename_i c cs' h1 h2
      injection h with h
      subst h
      obtain ⟨k1, k2⟩ := cellV_sim h1
      obtain ⟨k3, k4⟩ := cellsV_sim h2
      refine ⟨.cons (.d _ _ k1) k3, fun x hx => ?_⟩
      rcases List.mem_cons.1 hx with rfl | hx
      · exact k2
      · exact k4 x hx
    · cases h
theorem one_sim {v : Value} (e : ofVal v = .d (.v v)) : VSim B (match cellV v with | some c => .d c | none => .junk) (ofVal v) := by
  split
  · rename_i c h
    rw [e]
    exact .d _ _ (cellV_sim h).1
  · exact .junk _
theorem constV_sim (v : Value) : VSim B (constV v) (ofVal v) := by
  have key := one_sim (B := B) (v := v)
  cases v with
  | agg xs =>
    simp only [constV]
    split
    · rename_i cs h
      obtain ⟨h1, h2⟩ := cellsV_sim (B := B) h
      have : xs.all (·.oneCell') = true := by
        rw [← Array.all_toList, List.all_eq_true]
        exact h2
      simp only [ofVal, this, if_true]
      exact .ag _ _ h1.len h1.rep
    · exact .junk _
  | tuple xs => exact .junk _
  | _ => exact key rfl
theorem evX_sim (hs : Sim s p) (x : Operand) : VSim s.bx (evX s x) (ev p x) := by
  cases x with
  | tmp i => exact hs.sl i
  | const v => exact constV_sim v
  | global g => exact .junk _
  | func f => exact .junk _
theorem vs_int {k : IntKind} {x : Int} {q : PV} (h : VSim B (.d (.int k x)) q) : q = .d (.v (.int k x)) := by
  cases h with
  | d c y h => rw [nrm_v (show nrm y = .v _ from h)]
theorem vs_bool {x : Bool} {q : PV} (h : VSim B (.d (.bool x)) q) : q = .d (.v (.bool x)) := by
  cases h with
  | d c y h => rw [nrm_v (show nrm y = .v _ from h)]
theorem vs_str {x : ByteArray} {q : PV} (h : VSim B (.d (.str x)) q) : q = .d (.v (.string x)) := by
  cases h with
  | d c y h => rw [nrm_v (show nrm y = .v _ from h)]
theorem vs_nl {q : PV} (h : VSim B (.d .nl) q) : q = .d (.v (.slice none 0 0)) := by
  cases h with
  | d c y h => rw [show y = .v (.slice none 0 0) from h]
theorem vs_sl {ty : Ty} {xs : List ty.den} {q : PV} (h : VSim B (.d (.sl ty xs)) q) : q = .d (.sl (xs.map (encE ty))) ∨ (xs = [] ∧ q = .d (.v (.slice none 0 0))) := by
  cases h with
  | d c y h =>
    rcases nrm_sl (show nrm y = .sl _ from h) with h | ⟨h1, h2⟩
    · rw [h]; exact .inl rfl
    · rw [h2]; exact .inr ⟨by simpa using h1, rfl⟩
theorem vs_ag {cs : List SV} {q : PV} (h : VSim B (.ag cs) q) : ∃ qs, q = .ag qs ∧ CSim B cs qs := by
  cases h with
  | ag _ qs hl hr => exact ⟨qs, rfl, hl, hr⟩
theorem vs_tup {cs : List SV} {q : PV} (h : VSim B (.tup cs) q) : ∃ qs, q = .tup qs ∧ CSim B cs qs := by
  cases h with
  | tup _ qs hl hr => exact ⟨qs, rfl, hl, hr⟩
theorem v_int (k : IntKind) (x : Int) : VSim B (.d (.int k x)) (.d (.v (.int k x))) := .d _ _ rfl
theorem v_bool (x : Bool) : VSim B (.d (.bool x)) (.d (.v (.bool x))) := .d _ _ rfl
theorem v_str (x : ByteArray) : VSim B (.d (.str x)) (.d (.v (.string x))) := .d _ _ rfl
theorem v_sl (ty : Ty) (xs : List ty.den) : VSim B (.d (.sl ty xs)) (.d (.sl (xs.map (encE ty)))) := .d _ _ rfl

/-! ### Slices as data -/
theorem row_sim (hs : Sim s p) {t : Nat} {q : PV} {c : SD} (hv : VSim s.bx (.row t) q) (h : rowX s t = some c) : ∃ e k ty xs pins, lkB s.bx t = some (.rw e k ty xs pins) ∧ c = .sl ty xs ∧ q = .row t xs.length ∧ p.b t = some (.rw e k (xs.map (encE ty))) := by
  unfold rowX at h
  split at h
  · rename_i e k ty xs pins hb
    injection h with h
    have hbx := hs.bx t
    rw [hb] at hbx
    cases hv with
    | row _ n e2 k2 ty2 xs2 pins2 hb2 hn =>
      rw [hb] at hb2
      injection hb2 with hb2
      injection hb2 with e1 e2 e3 e4 e5
      subst e3
      have e4 := eq_of_heq e4
      subst e4
      exact ⟨e, k, ty, xs, pins, hb, h.symm, by rw [hn], hbx.1⟩
  · cases h
theorem data_sl (hs : Sim s p) {v : SV} {q : PV} {ty : Ty} {xs : List ty.den} (hv : VSim s.bx v q) (h : dataX s v = some (.sl ty xs)) : asSl p.b q = some (xs.map (encE ty)) := by
  unfold dataX at h
  split at h
  · injection h with h
    subst h
    rcases vs_sl hv with rfl | ⟨rfl, rfl⟩
    · rfl
    · simp [asSl]
  · obtain ⟨e, k, ty2, xs2, pins, h1, h2, rfl, h4⟩ := row_sim hs hv h
    injection h2 with e1 e2
    subst e1
    have e2 := eq_of_heq e2
    subst e2
    simp [asSl, h4]
  · cases h
theorem data_nl {v : SV} {q : PV} (hv : VSim s.bx v q) (h : dataX s v = some .nl) : q = .d (.v (.slice none 0 0)) := by
  unfold dataX at h
  split at h
  · injection h with h
    subst h
    exact vs_nl hv
  · unfold rowX at h
    split at h
    · injection h with h; cases h
    · cases h
  · cases h
theorem data_d (hs : Sim s p) {v : SV} {q : PV} {c : SD} (hv : VSim s.bx v q) (h : dataX s v = some c) : asData p.b q = .d c.toD ∧ (norow v = true → clean q = true ∧ asData bNone q = .d c.toD) := by
  unfold dataX at h
  split at h
  · injection h with h
    subst h
    cases hv with
    | d c y h => simp only [asData, h.nrm, clean, and_self, implies_true]
  · obtain ⟨e, k, ty2, xs2, pins, h1, rfl, rfl, h4⟩ := row_sim hs hv h
    refine ⟨by simp [asData, h4, SD.toD], fun h => by simp [norow] at h⟩
  · cases h
theorem datas_d (hs : Sim s p) : ∀ {cs : List SV} {qs : List PV} {ds : List SD}, CSim s.bx cs qs → datasX s cs = some ds → asDatas p.b qs = ds.map (fun c => .d c.toD) ∧ (norows cs = true → cleans qs = true ∧ asDatas bNone qs = ds.map (fun c => .d c.toD))
  | [], qs, ds, h, hd => by
    rcases h.cases with ⟨_, rfl⟩ | ⟨_, _, _, _, h1, _⟩
    · injection hd with hd; subst hd; simp [asDatas, cleans]
    · cases h1
  | c :: cs, qs, ds, h, hd => by
    rcases h.cases with ⟨h1, _⟩ | ⟨c', q, cs', qs', h1, rfl, h2, h3⟩
    · cases h1
    · injection h1 with e1 e2
      subst e1 e2
      simp only [datasX] at hd
      split at hd
      · rename_i d ds' k1 k2
        injection hd with hd
        subst hd
        obtain ⟨m1, m2⟩ := data_d hs h2 k1
        obtain ⟨m3, m4⟩ := datas_d hs h3 k2
        refine ⟨by simp [asDatas, m1, m3], fun hn => ?_⟩
        simp only [norows] at hn
        split at hn
        · rename_i hn1
          obtain ⟨n1, n2⟩ := m2 hn1
          obtain ⟨n3, n4⟩ := m4 hn
          simp [asDatas, cleans, n1, n2, n3, n4]
        · cases hn
      · cases hd
theorem cells_sim {v : SV} {q : PV} {cs : List SV} (hv : VSim B v q) (h : cellsX v = some cs) : ∃ qs, cellsP q = some qs ∧ CSim B cs qs := by
  cases hv with
  | junk q => cases h
  | tup => cases h
  | ag cs' qs hl hr => injection h with h; subst h; exact ⟨qs, rfl, hl, hr⟩
  | d c y hd => injection h with h; subst h; exact ⟨_, rfl, .cons (.d c y hd) .nil⟩
  | ptr t o ty cs' hb => injection h with h; subst h; exact ⟨_, rfl, .cons (.ptr t o ty cs' hb) .nil⟩
  | row t n e k ty xs pins hb hn => injection h with h; subst h; exact ⟨_, rfl, .cons (.row t n e k ty xs pins hb hn) .nil⟩
  | re t p o n i e k ty xs pins pin hb hn hp hi => injection h with h; subst h; exact ⟨_, rfl, .cons (.re t p o n i e k ty xs pins pin hb hn hp hi) .nil⟩
  | fe cs' ds hd hn => injection h with h; subst h; exact ⟨_, rfl, .cons (.fe cs' ds hd hn) .nil⟩
theorem pack_sim {cs : List SV} {qs : List PV} (h : CSim B cs qs) {size : Nat} {agg : Bool} {v : SV} (hp : packX size agg cs = some v) : ∃ q, packP size agg qs = some q ∧ VSim B v q := by
  unfold packX at hp
  unfold packP
  split at hp
  · rename_i ha
    rw [if_pos ha]
    split at hp
    · rename_i hl
      injection hp with hp
      subst hp
      rw [h.len] at hl
      rw [if_pos hl]
      have := h.take size
      exact ⟨_, rfl, .ag _ _ this.len this.rep⟩
    · cases hp
  · rename_i ha
    rw [if_neg ha]
    rcases h.cases with ⟨rfl, rfl⟩ | ⟨c, q, cs', qs', rfl, rfl, h1, h2⟩
    · cases hp
    · injection hp with hp; subst hp; exact ⟨q, rfl, h1⟩
theorem mapD_sim (cs : List SD) (h : ∀ c ∈ cs, c ≠ .nl) : CSim B (mapD cs) ((cs.map SD.toD).map .d) := by
  induction cs with
  | nil => exact .nil
  | cons c cs ih => exact .cons (.d _ _ (DSim.of (h c List.mem_cons_self))) (ih fun c hc => h c (List.mem_cons_of_mem _ hc))
end Go.Proofs.Ytcphpbhngnnpmaa

/- The typed executor: each operation is the pure machine's (second part). -/
namespace Go.Proofs.Ytcphpbhngnnpmaa
open Go.RowKit

variable {B : List (Nat × Option SBox)} {s : SS} {p : PS} {P : Program} {ρ : Type}
/-- A value that the pure machine reckons too. -/
def Gets (s : SS) (k : SV → Option ρ) (res : ρ) (e : Option PV) : Prop := ∃ v q, e = some q ∧ k v = some res ∧ VSim s.bx v q
theorem gets {k : SV → Option ρ} {res : ρ} {e : Option PV} {v : SV} {q : PV} (he : e = some q) (hk : k v = some res) (hv : VSim s.bx v q) : Gets s k res e := ⟨v, q, he, hk, hv⟩

theorem lit_spec {x : Operand} {n : Int} {kd : IntKind} {y : Int} (h : isLit x = some n) (hy : evX s x = .d (.int kd y)) : y = n := by
  unfold isLit at h
  split at h
  · injection h with h
    subst h
    simp only [evX, constV, cellV] at hy
    injection hy with hy
    injection hy with _ hy
    exact hy.symm
  · cases h
theorem arithX_ok {op : BinOp} {kd : IntKind} {lit : Option Int} {x y : Int} {k : SV → Option ρ} {res : ρ} (hl : ∀ n, lit = some n → y = n) (h : arithX op kd lit x y k = some res) : Gets s k res (arith op kd x y) := by
  cases op <;> simp only [arithX] at h
  case add => exact gets rfl h (v_int _ _)
  case sub => exact gets rfl h (v_int _ _)
  case mul => exact gets rfl h (v_int _ _)
  case quo =>
    split at h
    · rename_i n
      obtain ⟨h1, h2⟩ := chk_some h
      have hy := hl n rfl
      subst hy
      have : ¬ y = 0 := by simpa using h1
      exact gets (by simp [arith, this]) h2 (v_int _ _)
    · obtain ⟨q, h1, h2⟩ := bindS h
      split at h1
      · cases h1
      · rename_i hy
        injection h1 with h1
        subst h1
        exact gets (by simp [arith, hy]) h2 (v_int _ _)
  case rem =>
    split at h
    · rename_i n
      obtain ⟨h1, h2⟩ := chk_some h
      have hy := hl n rfl
      subst hy
      have : ¬ y = 0 := by simpa using h1
      exact gets (by simp [arith, this]) h2 (v_int _ _)
    · obtain ⟨q, h1, h2⟩ := bindS h
      unfold remO at h1
      split at h1
      · cases h1
      · rename_i hy
        injection h1 with h1
        subst h1
        exact gets (by simp [arith, hy]) h2 (v_int _ _)
  case eql => exact gets rfl h (v_bool _)
  case neq => exact gets rfl h (v_bool _)
  case lss => exact gets rfl h (v_bool _)
  case leq => exact gets rfl h (v_bool _)
  case gtr => exact gets rfl h (v_bool _)
  case geq => exact gets rfl h (v_bool _)
  case and => exact gets rfl h (v_int _ _)
  case or => exact gets rfl h (v_int _ _)
  case xor => exact gets rfl h (v_int _ _)
  all_goals cases h
theorem shiftX_ok {op : BinOp} {kd : IntKind} {lit : Option Int} {x y : Int} {k : SV → Option ρ} {res : ρ} (hl : ∀ n, lit = some n → y = n) (h : shiftX op kd lit x y k = some res) : Gets s k res (shiftP op kd x y) := by
  unfold shiftX at h
  split at h
  · rename_i n
    obtain ⟨h1, h2⟩ := chk_some h
    have hy := hl n rfl
    subst hy
    have : ¬ y < 0 := by have := of_decide_eq_true h1; omega
    split at h2
    · exact gets (by simp [shiftP, this]) h2 (v_int _ _)
    · exact gets (by simp [shiftP, this]) h2 (v_int _ _)
    · cases h2
  · obtain ⟨u, h1, h2⟩ := bindS h
    split at h1
    · cases h1
    · rename_i hy
      split at h2
      · exact gets (by simp [shiftP, hy]) h2 (v_int _ _)
      · exact gets (by simp [shiftP, hy]) h2 (v_int _ _)
      · cases h2
theorem textsX_ok {op : BinOp} {x y : ByteArray} {k : SV → Option ρ} {res : ρ} (h : textsX op x y k = some res) : Gets s k res (texts op x y) := by
  cases op <;> simp only [textsX] at h
  case add =>
    obtain ⟨z, h1, h2⟩ := bindS h
    unfold sCatO at h1
    split at h1
    · rename_i hz
      injection h1 with h1
      subst h1
      exact gets (by simp only [texts, hz, if_true]) h2 (v_str _)
    · cases h1
  case eql => exact gets rfl h (v_bool _)
  case neq => exact gets rfl h (v_bool _)
  case lss => exact gets rfl h (v_bool _)
  case leq => exact gets rfl h (v_bool _)
  case gtr => exact gets rfl h (v_bool _)
  case geq => exact gets rfl h (v_bool _)
  all_goals cases h
theorem truthsX_ok {op : BinOp} {x y : Bool} {k : SV → Option ρ} {res : ρ} (h : truthsX op x y k = some res) : Gets s k res (truths op x y) := by
  cases op <;> simp only [truthsX] at h
  case eql => exact gets rfl h (v_bool _)
  case neq => exact gets rfl h (v_bool _)
  all_goals cases h
theorem eqNats_ok : ∀ {l m : List Nat}, eqNats l m = true → l = m
  | [], [], _ => rfl
  | [], _ :: _, h => by cases h
  | _ :: _, [], h => by cases h
  | a :: l, b :: m, h => by
    simp only [eqNats, beq_spec] at h
    by_cases e : a = b
    · simp only [e, decide_true] at h; rw [e, eqNats_ok h]
    · simp only [e, decide_false] at h; cases h
theorem eqLeaf_ok {c d : SD} {q w : PV} {n : Nat} {r : Bool} (hc : VSim B (.d c) q) (hd : VSim B (.d d) w) (hn : leafNo (.d c) = some n) (h : eqLeafX c d = some r) : eqLeaf n q w = some r := by
  cases c with
  | int k a =>
    cases d <;> simp only [eqLeafX] at h <;> try cases h
    rw [vs_int hc, vs_int hd]
    injection hn with hn
    subst hn
    exact h
  | bool a =>
    cases d <;> simp only [eqLeafX] at h <;> try cases h
    rw [vs_bool hc, vs_bool hd]
    injection hn with hn
    subst hn
    rfl
  | str a =>
    cases d <;> simp only [eqLeafX] at h <;> try cases h
    rw [vs_str hc, vs_str hd]
    injection hn with hn
    subst hn
    rfl
  | sl t xs => cases hn
  | nl => cases hn
theorem eqBy_ok : ∀ {cs ds : List SV} {qs ws : List PV} {l : List Nat} {r : Bool}, CSim B cs qs → CSim B ds ws → leafNos cs = some l → eqByX cs ds = some r → eqBy l qs ws = some r := by
  intro cs
  induction cs with
  | nil => intro ds qs ws l r _ _ _ h; cases ds <;> simp [eqByX] at h
  | cons c cs ih =>
    intro ds qs ws l r hc hd hl h
    rcases hc.cases with ⟨h1, _⟩ | ⟨c', q, cs', qs', h1, rfl, hcq, hcs⟩
    · cases h1
    injection h1 with e1 e2
    subst e1 e2
    rcases hd.cases with ⟨rfl, _⟩ | ⟨d, w, ds', ws', rfl, rfl, hdw, hds⟩
    · cases c <;> cases cs <;> simp [eqByX] at h
    simp only [leafNos] at hl
    split at hl
    · rename_i n l' hn hl'
      injection hl with hl
      subst hl
      cases c with
      | d c =>
        cases d with
        | d d =>
          by_cases hlast : cs = [] ∧ ds' = []
          · obtain ⟨rfl, rfl⟩ := hlast
            simp only [eqByX] at h
            have := eqLeaf_ok hcq hdw hn h
            rcases hcs.cases with ⟨_, rfl⟩ | ⟨_, _, _, _, h1, _⟩
            · rcases hds.cases with ⟨_, rfl⟩ | ⟨_, _, _, _, h1, _⟩
              · injection hl' with hl'
                subst hl'
                simp [eqBy, this]
              · cases h1
            · cases h1
          · have h : (match eqLeafX c d, eqByX cs ds' with | some a, some r => some (a && r) | _, _ => none) = some r := by
              cases cs with
              | nil => cases ds' with
                | nil => exact absurd ⟨rfl, rfl⟩ hlast
                | cons => exact h
              | cons => exact h
            split at h
            · rename_i a r' k1 k2
              injection h with h
              subst h
              simp [eqBy, eqLeaf_ok hcq hdw hn k1, ih hcs hds hl' k2]
            · cases h
        | _ => cases cs <;> simp [eqByX] at h
      | _ => simp [leafNo] at hn
    · cases hl
theorem binX_ok {op : BinOp} {t : TypeId} {lit : Option Int} {v w : SV} {q r : PV} {k : SV → Option ρ} {res : ρ} (hv : VSim s.bx v q) (hw : VSim s.bx w r) (hl : ∀ n kd y, lit = some n → w = .d (.int kd y) → y = n) (h : binX P op t lit v w k = some res) : Gets s k res (effBin P op t q r) := by
  unfold binX at h
  split at h
  · rename_i kd x kd' y
    obtain rfl := vs_int hv
    obtain rfl := vs_int hw
    have e : effBin P op t (.d (.v (.int kd x))) (.d (.v (.int kd' y))) = if isShift op then shiftP op kd x y else if kd = kd' then arith op kd x y else none := rfl
    rw [e]
    split at h
    · rename_i hs
      rw [if_pos hs]
      exact shiftX_ok (fun n hn => hl n kd' y hn rfl) h
    · rename_i hs
      rw [if_neg (by simp [hs])]
      split at h
      · rename_i hk
        rw [if_pos hk]
        exact arithX_ok (fun n hn => hl n kd' y hn rfl) h
      · cases h
  · obtain rfl := vs_str hv
    obtain rfl := vs_str hw
    exact textsX_ok h
  · obtain rfl := vs_bool hv
    obtain rfl := vs_bool hw
    split at h
    · rename_i hu
      rename_i x y _
      have e : effBin P op t (.d (.v (.bool x))) (.d (.v (.bool y))) = truths op x y := by simp [effBin, asI, asS, asB, hu]
      rw [e]
      exact truthsX_ok h
    · cases h
  · rename_i xs ys
    obtain ⟨qs, rfl, hq⟩ := vs_ag hv
    obtain ⟨ws, rfl, hws⟩ := vs_ag hw
    split at h
    · rename_i l l' r h1 h2 h3
      obtain ⟨h4, h5⟩ := chk_some h
      obtain rfl := eqNats_ok h4
      have h6 := eqBy_ok hq hws h2 h3
      have e : effBin P op t (.ag qs) (.ag ws) = truths op r true := by simp [effBin, asI, asS, asB, effEqS, h1, h6]
      rw [e]
      split at h5
      · exact gets (by simp [truths]) h5 (v_bool _)
      · exact gets (by simp [truths]) h5 (v_bool _)
      · cases h5
    · cases h
  · cases h
theorem unX_ok {op : UnOp} {v : SV} {q : PV} {k : SV → Option ρ} {res : ρ} (hv : VSim s.bx v q) (h : unX op v k = some res) : Gets s k res (effUn op q) := by
  unfold unX at h
  split at h
  · obtain rfl := vs_bool hv; exact gets rfl h (v_bool _)
  · obtain rfl := vs_int hv; exact gets rfl h (v_int _ _)
  · cases h
theorem bytesOf_enc : ∀ (xs : List Int) (acc : ByteArray), bytesOf (List.map (encE (.int .u8)) xs) acc = some (xs.foldl (fun r n => r.push (UInt8.ofNat n.toNat)) acc)
  | [], acc => rfl
  | x :: xs, acc => bytesOf_enc xs (acc.push (UInt8.ofNat x.toNat))
theorem effConvB_bytes {b : Nat → Option Box} {src dst e : TypeId} {q : PV} {x : Int} {xs : List Int} (h1 : P.underlying src = some (.slice e)) (h2 : P.underlying dst = some .string) (h3 : P.underlying e = some (.int .u8)) (h4 : asSl b q = some (List.map (encE (.int .u8)) (x :: xs))) :
    effConvB P b src dst q = (bytesOf (List.map (encE (.int .u8)) (x :: xs)) ByteArray.empty).map fun s => .d (.v (.string s)) := by
  unfold effConvB
  rw [h1, h2]
  simp only [h3, h4]
  rfl
theorem effConvB_other {b : Nat → Option Box} {src dst : TypeId} {q : PV} {u : TypeDesc} (h1 : P.underlying src = some u) (hne : ∀ e, u = .slice e → False) : effConvB P b src dst q = effConv P src dst q := by
  unfold effConvB
  split
  · rename_i e h3 h4
    rw [h1] at h3
    injection h3 with h3
    exact absurd h3 (hne e)
  · rfl
theorem convX_ok (hs : Sim s p) {src dst : TypeId} {v : SV} {q : PV} {k : SV → Option ρ} {res : ρ} (hv : VSim s.bx v q) (h : convX P s src dst v k = some res) : Gets s k res (effConvB P p.b src dst q) := by
  unfold convX at h
  split at h
  · cases h
  · rename_i e h1
    split at h
    · rename_i h2
      split at h
      · rename_i xs h3 h4
        obtain ⟨z, h5, h6⟩ := bindS h
        have h7 := data_sl hs hv h4
        unfold sOfO at h5
        split at h5
        · cases h5
        · rename_i hne
          injection h5 with h5
          cases xs with
          | nil => exact absurd rfl hne
          | cons x xs =>
            refine gets ?_ h6 (v_str _)
            rw [effConvB_bytes h1 h2 h3 h7]
            exact congrArg (Option.map _) ((bytesOf_enc _ _).trans (congrArg some h5))
      · cases h
    · cases h
  · rename_i u hne h1
    rw [show effConvB P p.b src dst q = effConv P src dst q from effConvB_other h1 (fun e he => hne e he)]
    split at h
    · rename_i h2
      obtain rfl := vs_int hv
      exact gets (by simp [effConv, h1, h2, asI]) h (v_int _ _)
    · rename_i h2
      obtain rfl := vs_str hv
      exact gets (by simp [effConv, h1, h2, asS]) h (v_str _)
    · cases h
theorem fieldAddrX_ok {t : TypeId} {f : Nat} {v : SV} {q : PV} {k : SV → Option ρ} {res : ρ} (hv : VSim s.bx v q) (h : fieldAddrX P t v f k = some res) : Gets s k res (effFieldAddr P t q f) := by
  unfold fieldAddrX at h
  split at h
  · rename_i off size agg hf
    obtain ⟨h1, h2⟩ := chk_some h
    have hsz : ¬ size = 0 := by simpa using h1
    split at h2
    · cases hv with
      | ptr _ _ ty cs hb => exact gets (by simp [effFieldAddr, hf, hsz]) h2 (.ptr _ _ ty cs hb)
    · cases hv with
      | fe cs ds hd hn => exact gets (q := .fe (ds.drop off)) (by simp [effFieldAddr, hf, hsz]) h2 (.fe _ _ (by rw [hd, List.map_drop]) (fun c hc => hn c (List.mem_of_mem_drop hc)))
    · cases hv with
      | re _ _ _ n i e k ty xs pins pin hb hn hp hi => exact gets (q := .re _ n i (_ + off)) (by simp [effFieldAddr, hf, hsz]) h2 (.re _ _ _ n i e k ty xs pins pin hb hn hp hi)
    · cases h2
  · cases h
theorem fieldX_ok {t : TypeId} {f : Nat} {v : SV} {q : PV} {k : SV → Option ρ} {res : ρ} (hv : VSim s.bx v q) (h : fieldX P t v f k = some res) : Gets s k res (effField P t q f) := by
  unfold fieldX at h
  split at h
  · rename_i off size agg cs hf
    obtain ⟨qs, rfl, hq⟩ := vs_ag hv
    split at h
    · rename_i v' h1
      obtain ⟨q', h2, h3⟩ := pack_sim (hq.drop off) h1
      exact gets (by simp [effField, hf, h2]) h h3
    · cases h
  · cases h
theorem addr_sim (hs : Sim s p) {v : SV} {q : PV} {cs : List SV} (hv : VSim s.bx v q) (h : addrX s v = some cs) : ∃ qs, addrP p.b q = some qs ∧ CSim s.bx cs qs := by
  unfold addrX at h
  split at h
  · rename_i t off
    cases hv
    split at h
    · rename_i ty cs' hb
      injection h with h
      subst h
      have := hs.bx t
      rw [hb] at this
      obtain ⟨qs, h1, h2⟩ := this
      exact ⟨qs.drop off, by simp [addrP, h1], h2.drop off⟩
    · cases h
  · injection h with h
    subst h
    cases hv with
    | fe _ ds hd hn => exact ⟨_, rfl, by rw [hd]; exact mapD_sim _ hn⟩
  · rename_i t pi off
    split at h
    · rename_i e k ty xs pins hb
      split at h
      · rename_i j cs' hp
        injection h with h
        subst h
        have hbx := hs.bx t
        rw [hb] at hbx
        obtain ⟨h1, h2⟩ := hbx
        obtain ⟨h3, h4⟩ := h2 pi _ hp
        obtain ⟨x, h5, h6⟩ := h4 cs' rfl
        cases hv with
        | re _ _ _ n i e2 k2 ty2 xs2 pins2 pin2 hb2 hn2 hp2 hi2 =>
          rw [hb] at hb2
          injection hb2 with hb2
          injection hb2 with e1 e2 e3 e4 e5
          subst e3
          have e4 := eq_of_heq e4
          subst e4 e5
          rw [hp] at hp2
          injection hp2 with hp2
          subst hp2
          refine ⟨((encE ty x).drop off).map .d, by simp [addrP, h1, hn2, hi2, h5], ?_⟩
          have := mapD_sim (B := s.bx) (cs'.drop off) (fun c hc => by rw [h6] at hc; exact encS_nl ty x c (List.mem_of_mem_drop hc))
          rw [h6] at this ⊢
          rw [List.map_drop, encS_ok] at this
          simpa [List.map_drop] using this
      · cases h
    · cases h
  · cases h
theorem loadX_ok (hs : Sim s p) {t : TypeId} {v w : SV} {q : PV} (hv : VSim s.bx v q) (h : loadX P s t v = some w) : ∃ r, effLoad P p.b t q = some r ∧ VSim s.bx w r := by
  unfold loadX at h
  split at h
  · rename_i i cl h1 h2
    obtain ⟨qs, h3, h4⟩ := addr_sim hs hv h2
    obtain ⟨r, h5, h6⟩ := pack_sim h4 h
    exact ⟨r, by simp [effLoad, h1, h3, h5], h6⟩
  · cases h
theorem intX_spec {v : SV} {q : PV} {i : Int} (hv : VSim B v q) (h : intX v = some i) : ∃ k, q = .d (.v (.int k i)) := by
  unfold intX at h
  split at h
  · injection h with h; subst h; exact ⟨_, vs_int hv⟩
  · cases h
theorem optI_int {q : PV} {k : IntKind} {i : Int} {n : Nat} (h : q = .d (.v (.int k i))) (h0 : 0 ≤ i) : optI (some q) n = some i.toNat := by
  subst h
  simp [optI, asI, h0]
end Go.Proofs.Ytcphpbhngnnpmaa

/- The typed executor: each operation is the pure machine's (third part). -/
namespace Go.Proofs.Ytcphpbhngnnpmaa
open Go.RowKit

variable {B : List (Nat × Option SBox)} {s : SS} {p : PS} {P : Program} {ρ : Type}
/-- An operation is done in both. -/
def Done (s : SS) (p : PS) (dst : Option Nat) (k : SV → Upd → Option ρ) (res : ρ) (e : Option (PV × Option (Nat × Box))) : Prop :=
  ∃ v u q w, e = some (q, w) ∧ k v u = some res ∧ Sim (s.upd dst v u) (p.upd dst q w) ∧ OkU s u ∧ OkW s dst w
theorem Gets.done (hs : Sim s p) {dst : Option Nat} {k : SV → Upd → Option ρ} {res : ρ} {e : Option PV} (h : Gets s (fun v => k v .no) res e) : Done s p dst k res (e.map fun r => (r, none)) := by
  obtain ⟨v, q, rfl, h2, h3⟩ := h
  exact ⟨v, .no, q, none, rfl, h2, sim_no hs h3, trivial, okW_none⟩
theorem idxO_spec {α : Type} {xs : List α} {i : Int} {x : α} (h : idxO xs i = some x) : 0 ≤ i ∧ xs[i.toNat]? = some x ∧ i.toNat < xs.length := by
  unfold idxO at h
  split at h
  · rename_i h0
    exact ⟨h0, h, (List.getElem?_eq_some_iff.1 h).1⟩
  · cases h
theorem indexAddrX_ok (hs : Sim s p) {dst : Option Nat} {t : TypeId} {v w : SV} {q r : PV} {k : SV → Upd → Option ρ} {res : ρ} (hv : VSim s.bx v q) (hw : VSim s.bx w r) (h : indexAddrX P s dst t v w k = some res) :
    Done s p dst k res ((effIndexAddr P p.b t q r).map fun r => (r, none)) := by
  unfold indexAddrX at h
  split at h
  · rename_i e kd i d hu
    obtain rfl := vs_int hw
    split at h
    · rename_i ie hie
      split at h
      · rename_i ty xs
        obtain ⟨h1, h2⟩ := chk_some h
        obtain ⟨x, h3, h4⟩ := bindS h2
        obtain ⟨k0, k1, k2⟩ := idxO_spec h3
        have hl : (encE ty x).length = ie.size := by rw [encE_len]; simpa using h1
        rcases vs_sl hv with rfl | ⟨rfl, _⟩
        · refine ⟨_, .no, .fe (encE ty x), none, ?_, h4, sim_no hs (.fe _ _ (encS_ok ty x).symm (encS_nl ty x)), trivial, okW_none⟩
          simp [effIndexAddr, hu, asI, hie, k0, k1, hl]
        · simp at k2
      · rename_i t'
        split at h
        · rename_i e' kk ty xs pins hb
          obtain ⟨h1, h2⟩ := chk_some h
          obtain ⟨h2, h3⟩ := chk_some h2
          obtain ⟨x, h4, h5⟩ := bindS h3
          obtain ⟨k0, k1, k2⟩ := idxO_spec h4
          have hbx := hs.bx t'
          rw [hb] at hbx
          obtain ⟨hbx, hpins⟩ := hbx
          have hkk : kk = ie.size := by simpa using h1
          have hnp : lkP pins d = none := by simpa using h2
          cases hv with
          | row _ n e2 k2' ty2 xs2 pins2 hb2 hn2 =>
            rw [hb] at hb2
            injection hb2 with hb2
            injection hb2 with e1 e2 e3 e4 e5
            subst e3
            have e4 := eq_of_heq e4
            subst e4 e5 hn2
            refine ⟨_, _, .re t' xs.length i.toNat 0, none, ?_, h5, ?_, (show SameB (lkB s.bx t') _ from by rw [hb]; exact ⟨_, rfl⟩), okW_none⟩
            · simp [effIndexAddr, hu, asI, hie, k0, hbx, hkk, k2]
            · have hble : BLe s.bx ((t', some (.rw e' kk ty xs ((d, ⟨i, some (encS ty x)⟩) :: pins))) :: s.bx) := ble_rw hb rfl (fun p pin hp => ⟨pin, by
                rw [lkP_cons, if_neg (fun e => by rw [e, hnp] at hp; cases hp)]; exact hp, rfl⟩)
              refine sim_pin hs hble (fun _ => ⟨hbx, fun p pin hp => ?_⟩) (.re t' d 0 xs.length i.toNat e' kk ty xs _ ⟨i, some (encS ty x)⟩ (by rw [lkB_cons, if_pos rfl]) rfl (by rw [lkP_cons, if_pos rfl]) rfl)
              rw [lkP_cons] at hp
              split at hp
              · injection hp with hp
                subst hp
                exact ⟨k2, fun cs hc => ⟨x, k1, by injection hc with hc; exact hc.symm⟩⟩
              · exact hpins p pin hp
        · cases h
      · cases h
    · cases h
  · cases h
theorem rowDs_sim {cs : List SV} {qs : List PV} {ds : List SD} (h : CSim B cs qs) (hd : rowDs cs = some ds) : qs.mapM toD = some (ds.map SD.toD) := by
  induction cs generalizing qs ds with
  | nil =>
    rcases h.cases with ⟨_, rfl⟩ | ⟨_, _, _, _, h1, _⟩
    · injection hd with hd; subst hd; rfl
    · cases h1
  | cons c cs ih =>
    rcases h.cases with ⟨h1, _⟩ | ⟨c', q, cs', qs', h1, rfl, h2, h3⟩
    · cases h1
    · injection h1 with e1 e2
      subst e1 e2
      simp only [rowDs] at hd
      split at hd
      · rename_i d ds' k1 k2
        injection hd with hd
        subst hd
        have := ih h3 k2
        unfold rowD at k1
        split at k1
        · injection k1 with k1
          subst k1
          cases h2 with
          | d _ y hy => simp [List.mapM_cons, toD, hy.nrm, this]
        · cases k1
      · cases hd
theorem datasX_rowDs {s : SS} : ∀ {cs : List SV} {ds : List SD}, datasX s cs = some ds → cs.length = ds.length
  | [], ds, h => by injection h with h; subst h; rfl
  | c :: cs, ds, h => by
    simp only [datasX] at h
    split at h
    · rename_i d ds' k1 k2
      injection h with h
      subst h
      simp [datasX_rowDs k2]
    · cases h
theorem rowDs_len : ∀ {cs : List SV} {ds : List SD}, rowDs cs = some ds → cs.length = ds.length
  | [], ds, h => by injection h with h; subst h; rfl
  | c :: cs, ds, h => by
    simp only [rowDs] at h
    split at h
    · rename_i d ds' k1 k2
      injection h with h
      subst h
      simp [rowDs_len k2]
    · cases h
theorem lkP_unpin : ∀ (l : List (Nat × Pin)) (i : Nat), lkP (unpin l) i = (lkP l i).map fun pin => ⟨pin.i, none⟩
  | [], _ => rfl
  | (j, ⟨n, cs⟩) :: l, i => by simp only [unpin, lkP_cons, lkP_unpin l i]; split <;> rfl
theorem storeX_ok (hs : Sim s p) {dst : Option Nat} (hd : dst = none) {t : TypeId} {v w : SV} {q r : PV} {k : SV → Upd → Option ρ} {res : ρ} (hv : VSim s.bx v q) (hw : VSim s.bx w r) (h : storeX P s t v w k = some res) :
    Done s p dst k res ((effStore P p.b t q r).map fun u => (.junk, some u)) := by
  unfold storeX at h
  split at h
  · rename_i i ns hi hns
    obtain ⟨ws, hws, hcs⟩ := cells_sim hw hns
    split at h
    · rename_i x off
      cases hv
      split at h
      · rename_i ty cs hb
        obtain ⟨h1, h2⟩ := chk_some h
        obtain ⟨h2, h3⟩ := chk_some h2
        obtain ⟨h3, h4⟩ := chk_some h3
        have h1 : ns.length = i.size := by simpa using h1
        have h2 := of_decide_eq_true h2
        obtain ⟨hro, h3⟩ := wrB_spec h3
        have hbx := hs.bx x
        rw [hb] at hbx
        obtain ⟨qs, hq1, hq2⟩ := hbx
        have l1 := hcs.len
        have l2 := hq2.len
        refine ⟨_, _, .junk, some (x, .st ty (splice qs off ws)), ?_, h4, ?_, ⟨h3, fun ty2 cs2 h => ?_⟩, okW_wr hro⟩
        · simp only [effStore, hi, hws, hq1]
          rw [if_pos ⟨by omega, by omega⟩]
          rfl
        · refine sim_box hs (ble_st hb) (fun _ => ⟨_, rfl, ?_⟩) (.junk _)
          rw [spliceX_eq cs off ns h2]
          exact (hq2.splice hcs off).mono (ble_st hb)
        · rw [hb] at h
          injection h with h
          injection h with e1 e2
          subst e1 e2
          refine ⟨_, rfl, ?_⟩
          rw [spliceX_eq cs off ns h2]
          unfold splice
          simp
          omega
      · cases h
    · rename_i x pi off
      split at h
      · rename_i e kk ty xs pins ds hb hds
        split at h
        · rename_i j cs0 hp
          obtain ⟨h1, h2⟩ := chk_some h
          obtain ⟨h2, h3⟩ := chk_some h2
          obtain ⟨h3, h4⟩ := chk_some h3
          have h1 : ns.length = i.size := by simpa using h1
          have h2 := of_decide_eq_true h2
          obtain ⟨hro, h3⟩ := wrB_spec h3
          split at h4
          · rename_i cs' hcs'
            split at h4
            · rename_i y hy
              have hbx := hs.bx x
              rw [hb] at hbx
              obtain ⟨hbx, hpins⟩ := hbx
              obtain ⟨k1, k2⟩ := hpins pi _ hp
              have hy2 := decS_ok hy
              cases hv with
              | re _ _ _ n i2 e2 k2' ty2 xs2 pins2 pin2 hb2 hn2 hp2 hi2 =>
                rw [hb] at hb2
                injection hb2 with hb2
                injection hb2 with e1 e2 e3 e4 e5
                subst e3
                have e4 := eq_of_heq e4
                subst e4 e5 hn2
                rw [hp] at hp2
                injection hp2 with hp2
                subst hp2
                simp only at hi2 k1 k2
                subst hi2
                obtain ⟨x0, hx0⟩ : ∃ x0, xs[j.toNat]? = some x0 := ⟨xs[j.toNat], by simp [k1]⟩
                have hds' : ws.mapM toD = some (ds.map SD.toD) := rowDs_sim hcs hds
                have hlen0 : (encE ty x0).length = tyN ty := encE_len ty x0
                have hsp : splice (encE ty x0) off (ds.map SD.toD) = encE ty y := by
                  split at hcs'
                  · rename_i hfull
                    injection hcs' with hcs'
                    subst hcs'
                    have h0 : off = 0 := by omega
                    subst h0
                    rw [← hy2]
                    have : (ds.map SD.toD).length = (encE ty x0).length := by simp [hfull, hlen0]
                    simp [splice, this]
                  · cases cs0 with
                    | none => cases hcs'
                    | some cs0 =>
                      injection hcs' with hcs'
                      obtain ⟨x1, h7, h8⟩ := k2 cs0 rfl
                      rw [hx0] at h7
                      injection h7 with h7
                      subst h7
                      have h9 : cs0.length = tyN ty := by
                        have := encS_ok ty x0
                        rw [← h8] at this
                        have := congrArg List.length this
                        simpa [hlen0] using this
                      rw [← hy2, ← hcs']
                      show _ = List.map SD.toD (spliceX cs0 off ds)
                      rw [spliceX_eq cs0 off ds (by omega), splice_map, h8, encS_ok]
                have hble : BLe s.bx ((x, some (.rw e kk ty (xs.set j.toNat y) ((pi, ⟨j, some (encS ty y)⟩) :: unpin pins))) :: s.bx) := ble_rw hb (by simp) (fun p2 pin2 hp2 => by
                  rw [lkP_cons]
                  by_cases e : p2 = pi
                  · subst e
                    rw [hp] at hp2
                    injection hp2 with hp2
                    subst hp2
                    exact ⟨_, if_pos rfl, rfl⟩
                  · rw [if_neg e, lkP_unpin, hp2]
                    exact ⟨_, rfl, rfl⟩)
                refine ⟨_, _, .junk, some (x, .rw e kk ((xs.map (encE ty)).set j.toNat (splice (encE ty x0) off (ds.map SD.toD)))), ?_, h4, ?_, ⟨h3, fun ty2 cs2 h => by rw [hb] at h; cases h⟩, okW_wr hro⟩
                · have hl2 : (ds.map SD.toD).length = i.size := by rw [List.length_map, ← rowDs_len hds]; exact h1
                  have hl3 : off + (ds.map SD.toD).length ≤ (encE ty x0).length := by rw [hlen0, List.length_map]; exact h2
                  simp only [effStore, hi, hws, hbx, hds', List.getElem?_map, hx0, Option.map_some, List.length_map]
                  rw [List.length_map] at hl2 hl3
                  rw [if_pos ⟨trivial, hl2, hl3⟩]
                  rfl
                · rw [hsp, ← List.map_set]
                  refine sim_box hs hble (fun _ => ⟨rfl, fun p2 pin2 hp2 => ?_⟩) (.junk _)
                  rw [lkP_cons] at hp2
                  split at hp2
                  · injection hp2 with hp2
                    subst hp2
                    exact ⟨by simpa using k1, fun cs hc => ⟨y, by simp [k1], by injection hc with hc; exact hc.symm⟩⟩
                  · rw [lkP_unpin, Option.map_eq_some_iff] at hp2
                    obtain ⟨pin3, h7, rfl⟩ := hp2
                    exact ⟨by simpa using (hpins p2 pin3 h7).1, fun cs hc => by cases hc⟩
            · cases h4
          · cases h4
        · cases h
      · cases h
    · cases h
  · cases h
end Go.Proofs.Ytcphpbhngnnpmaa

/- The typed executor: each operation is the pure machine's (fourth part). -/
namespace Go.Proofs.Ytcphpbhngnnpmaa
open Go.RowKit

variable {B : List (Nat × Option SBox)} {s : SS} {p : PS} {P : Program} {ρ : Type}
theorem fill_sim (hs : Sim s p) (place : Nat → Option (Nat × Nat)) : ∀ {l : List (Nat × Operand)} {cs cs' : List SV} {qs : List PV}, CSim s.bx cs qs → fillX place cs (partsX s l) = some cs' → ∃ qs', fillP place qs (l.map fun (i, x) => (i, ev p x)) = some qs' ∧ CSim s.bx cs' qs'
  | [], cs, cs', qs, h, hf => by injection hf with hf; subst hf; exact ⟨qs, rfl, h⟩
  | (i, x) :: l, cs, cs', qs, h, hf => by
    simp only [partsX, fillX] at hf
    split at hf
    · rename_i off size ns h1 h2
      obtain ⟨h3, h4⟩ := chk_some hf
      obtain ⟨h4, h5⟩ := chk_some h4
      obtain ⟨ws, h6, h7⟩ := cells_sim (evX_sim hs x) h2
      replace h3 : ns.length = size := by simpa using h3
      replace h4 := of_decide_eq_true h4
      rw [spliceX_eq cs off ns h4] at h5
      obtain ⟨qs', h8, h9⟩ := fill_sim hs place (h.splice h7 off) h5
      refine ⟨qs', ?_, h9⟩
      have l1 := h7.len
      have l2 := h.len
      simp only [List.map_cons, fillP, h1, h6]
      rw [if_pos ⟨by omega, by omega⟩]
      exact h8
    · cases hf
theorem zeros_sim {i : TI} {z : List SV} (h : zerosX i = some z) : CSim B z (zerosP i) := (cellsV_sim h).1
theorem repl_sim {cs : List SV} {qs : List PV} (h : CSim B cs qs) : ∀ n, CSim B (replX n cs) (List.replicate n qs).flatten
  | 0 => .nil
  | n + 1 => by rw [List.replicate_succ, List.flatten_cons]; exact h.append (repl_sim h n)
theorem chunkX_ok (k : Nat) : ∀ (n : Nat) (l : List SD), (chunkX k n l).map (List.map SD.toD) = chunk k n (l.map SD.toD)
  | 0, _ => rfl
  | n + 1, l => by simp only [chunkX, chunk, List.map_cons, List.map_take, chunkX_ok k n, List.map_drop]
theorem decAll_ok {t : Ty} : ∀ {l : List (List SD)} {xs : List t.den}, decAll t l = some xs → l.map (List.map SD.toD) = xs.map (encE t)
  | [], xs, h => by injection h with h; subst h; rfl
  | c :: l, xs, h => by
    simp only [decAll] at h
    split at h
    · rename_i x xs' h1 h2
      injection h with h
      subst h
      simp only [List.map_cons, decS_ok h1, decAll_ok h2]
    · cases h
theorem buildSliceX_ok (hs : Sim s p) {dst : Option Nat} {t : TypeId} {n : Nat} {l : List (Nat × Operand)} {k : SV → Upd → Option ρ} {res : ρ} (h : buildSliceX P s dst t n (partsX s l) k = some res) :
    Done s p dst k res (effBuildSlice P p.b dst t n (l.map fun (i, x) => (i, ev p x))) := by
  unfold buildSliceX at h
  split at h
  · rename_i d e hu
    split at h
    · rename_i i ty hi hb hty
      split at h
      · rename_i z hz
        have h1 := (chk_some h).1
        replace h := (chk_some h).2
        have h2 := (chk_some h).1
        replace h := (chk_some h).2
        have h3 := (chk_some h).1
        replace h := (chk_some h).2
        have h4 := (chk_some h).1
        replace h := (chk_some h).2
        replace h1 := of_decide_eq_true h1
        replace h2 := of_decide_eq_true h2
        replace h3 := of_decide_eq_true h3
        obtain ⟨hfr, h4⟩ := newB_spec h4
        split at h
        · rename_i cs hcs
          split at h
          · rename_i ds hds
            split at h
            · rename_i xs hxs
              obtain ⟨h5, h6⟩ := chk_some h
              obtain ⟨qs, h7, h8⟩ := fill_sim hs _ (repl_sim (zeros_sim (B := s.bx) hz) n) hcs
              have h9 := rowDs_sim h8 hds
              have hbd : p.b d = none := by have := hs.bx d; rw [hb] at this; exact this hfr
              have hch : chunk i.size n (ds.map SD.toD) = xs.map (encE ty) := by rw [← chunkX_ok, decAll_ok hxs]
              have hlen : xs.length = n := by
                have := congrArg List.length hch
                rw [chunk_len, List.length_map] at this
                exact this.symm
              refine ⟨_, _, .row d n, some (d, .rw e i.size (xs.map (encE ty))), ?_, h6, ?_, ⟨h4, hb⟩, okW_new hb rfl⟩
              · simp only [effBuildSlice, hu, hi, hbd]
                rw [if_pos ⟨h1, h2, h3⟩]
                simp only [h7, h9, hch]
              · exact sim_box hs (ble_new hb) (fun _ => ⟨rfl, fun p pin hp => by cases hp⟩) (.row d n e i.size ty xs [] (by rw [lkB_cons, if_pos rfl]) hlen)
            · cases h
          · cases h
        · cases h
      · cases h
    · cases h
  · cases h
theorem appO_spec {α : Type} {l m z : List α} (h : appO l m = some z) : l.length + m.length ≤ 1000000 ∧ z = l ++ m := by
  unfold appO at h
  split at h
  · rename_i hl; injection h with h; exact ⟨hl, h.symm⟩
  · cases h
theorem castL_rfl {t : Ty} (h : t = t) (xs : List t.den) : castL h xs = xs := rfl
theorem appendX_ok (hs : Sim s p) {dst : Option Nat} {t : TypeId} {v w : SV} {q r : PV} {k : SV → Upd → Option ρ} {res : ρ} (hv : VSim s.bx v q) (hw : VSim s.bx w r) (h : appendX P s dst t v w k = some res) :
    Done s p dst k res (effAppend P p.b dst t q r) ∧ True := by
  refine ⟨?_, trivial⟩
  unfold appendX at h
  split at h
  · rename_i e ty ys hu hdw
    have hr := data_sl hs hw hdw
    split at h
    · rename_i i hi
      have h1 := (chk_some h).1
      replace h := (chk_some h).2
      have h2 := (chk_some h).1
      replace h := (chk_some h).2
      have h3 := (chk_some h).1
      replace h := (chk_some h).2
      have h4 := (chk_some h).1
      replace h := (chk_some h).2
      replace h1 := of_decide_eq_true h1
      replace h2 := of_decide_eq_true h2
      replace h3 := of_decide_eq_true h3
      replace h4 : tyN ty = i.size := by simpa using h4
      have hla : lenAll i.size (ys.map (encE ty)) := by
        intro x hx
        obtain ⟨y, _, rfl⟩ := List.mem_map.1 hx
        rw [encE_len, h4]
      have sm : ∀ n, n ≤ 1000000 → small n i.bytes := fun n hn => by
        unfold small
        exact Nat.le_trans (Nat.mul_le_mul hn h3) (by decide)
      split at h
      · rename_i x
        split at h
        · rename_i e' kk ty' xs pins hb
          split at h
          · rename_i hty hsame
            obtain rfl := hty
            have h5 := (chk_some h).1
            replace h := (chk_some h).2
            have h6 := (chk_some h).1
            replace h := (chk_some h).2
            have h7 := (chk_some h).1
            replace h := (chk_some h).2
            replace h5 : e' = e := by simpa using h5
            replace h6 : kk = i.size := by simpa using h6
            obtain ⟨hfr, h7⟩ := wrB_spec h7
            obtain ⟨zs, h8, h9⟩ := bindS h
            rw [castL_rfl] at h8
            obtain ⟨h10, rfl⟩ := appO_spec h8
            have hbx := hs.bx x
            rw [hb] at hbx
            obtain ⟨hbx, _⟩ := hbx
            cases hv with
            | row _ n e2 k2 ty2 xs2 pins2 hb2 hn2 =>
              rw [hb] at hb2
              injection hb2 with hb2
              injection hb2 with q1 q2 q3 q4 q5
              subst q3
              have q4 := eq_of_heq q4
              subst q4 hn2
              refine ⟨_, _, .row x (xs.length + ys.length), some (x, .rw e' kk (xs.map (encE ty) ++ ys.map (encE ty))), ?_, h9, ?_, ⟨h7, fun ty2 cs2 h => by rw [hb] at h; cases h⟩, okW_wr hfr⟩
              · simp only [effAppend, hu, hr, hi, hbx]
                rw [if_pos ⟨h1, h2, hla⟩, if_pos ⟨by simp, h5, h6, by simpa using sm _ h10⟩]
                simp [h5]
              · rw [← List.map_append]
                exact sim_grow hs hb (.row x _ e' kk ty (xs ++ ys) [] (by rw [lkB_cons, if_pos rfl]) (by simp))
          · cases h
        · cases h
      · obtain rfl := vs_nl hv
        split at h
        · rename_i d
          split at h
          · rename_i hb
            have h7 := (chk_some h).1
            replace h := (chk_some h).2
            obtain ⟨hfr, h7⟩ := newB_spec h7
            obtain ⟨zs, h8, h9⟩ := bindS h
            obtain ⟨h10, rfl⟩ := appO_spec h8
            have hbd : p.b d = none := by have := hs.bx d; rw [hb] at this; exact this hfr
            refine ⟨_, _, .row d zs.length, some (d, .rw e i.size (zs.map (encE ty))), ?_, h9, ?_, ⟨h7, hb⟩, okW_new hb rfl⟩
            · simp only [effAppend, hu, hr, hi, hbd]
              rw [if_pos ⟨h1, h2, hla⟩, if_pos ⟨trivial, trivial⟩, if_pos (by simpa using sm _ (by simpa using h10))]
              simp
            · exact sim_box hs (ble_new hb) (fun _ => ⟨rfl, fun p pin hp => by cases hp⟩) (.row d _ e i.size ty _ [] (by rw [lkB_cons, if_pos rfl]) (by simp))
          · cases h
        · cases h
      · cases h
    · cases h
  · cases h
theorem sliceX_ok (hs : Sim s p) {t : TypeId} {v : SV} {q : PV} {lo hi : Option Operand} {k : SV → Option ρ} {res : ρ} (hv : VSim s.bx v q) (h : sliceX P t v (lo.map (evX s)) (hi.map (evX s)) k = some res) : Gets s k res (effSlice P p.b t q (lo.map (ev p)) (hi.map (ev p))) := by
  have int : ∀ {x : Operand} {i : Int}, intX (evX s x) = some i → ∃ kd, ev p x = .d (.v (.int kd i)) := fun {x i} h => intX_spec (evX_sim hs x) h
  unfold sliceX at h
  split at h
  · rename_i e ty xs hu
    have hq : asSl p.b q = some (xs.map (encE ty)) ∧ ∃ y, q = .d y := by
      rcases vs_sl hv with rfl | ⟨rfl, rfl⟩
      · exact ⟨rfl, _, rfl⟩
      · exact ⟨by simp [asSl], _, rfl⟩
    obtain ⟨hq, y, rfl⟩ := hq
    split at h
    · rename_i i hi'
      have h1 := (chk_some h).1
      replace h := (chk_some h).2
      replace h1 : tyN ty = i.size := by simpa using h1
      have hla : lenAll i.size (xs.map (encE ty)) := by
        intro x hx
        obtain ⟨y, _, rfl⟩ := List.mem_map.1 hx
        rw [encE_len, h1]
      split at h
      · rename_i hl hh
        rw [Option.map_eq_none_iff] at hl hh
        subst hl hh
        refine gets ?_ h (v_sl ty xs)
        simp only [effSlice, hu, hi', hq, Option.map_none, optI]
        rw [if_pos ⟨Nat.zero_le _, Nat.le_refl _, hla⟩]
        simp [List.take_of_length_le]
      · rename_i l hl hh
        rw [Option.map_eq_none_iff] at hh
        rw [Option.map_eq_some_iff] at hl
        obtain ⟨lo, rfl, rfl⟩ := hl
        subst hh
        split at h
        · rename_i li hli
          obtain ⟨kd, hkd⟩ := int hli
          obtain ⟨z, h2, h3⟩ := bindS h
          unfold loO at h2
          split at h2
          · rename_i hc
            injection h2 with h2
            subst h2
            refine gets ?_ h3 (v_sl ty _)
            simp only [effSlice, hu, hi', hq, Option.map_none, Option.map_some, hkd, optI_int rfl hc.1]
            simp only [optI, List.length_map]
            rw [if_pos ⟨hc.2, Nat.le_refl _, hla⟩]
            rw [← List.map_drop, ← List.map_take, List.take_of_length_le (by simp)]
          · cases h2
        · cases h
      · rename_i l hl hh
        rw [Option.map_eq_none_iff] at hl
        rw [Option.map_eq_some_iff] at hh
        obtain ⟨hi2, rfl, rfl⟩ := hh
        subst hl
        split at h
        · rename_i li hli
          obtain ⟨kd, hkd⟩ := int hli
          obtain ⟨z, h2, h3⟩ := bindS h
          unfold hiO at h2
          split at h2
          · rename_i hc
            injection h2 with h2
            subst h2
            refine gets ?_ h3 (v_sl ty _)
            simp only [effSlice, hu, hi', hq, Option.map_none, Option.map_some, hkd, optI_int rfl hc.1]
            simp only [optI, List.length_map]
            rw [if_pos ⟨Nat.zero_le _, hc.2, hla⟩]
            simp
          · cases h2
        · cases h
      · rename_i l l' hl hh
        rw [Option.map_eq_some_iff] at hl hh
        obtain ⟨lo, rfl, rfl⟩ := hl
        obtain ⟨hi2, rfl, rfl⟩ := hh
        split at h
        · rename_i li hi3 hli hhi
          obtain ⟨kd, hkd⟩ := int hli
          obtain ⟨kd2, hkd2⟩ := int hhi
          obtain ⟨z, h2, h3⟩ := bindS h
          unfold lhO at h2
          split at h2
          · rename_i hc
            injection h2 with h2
            subst h2
            refine gets ?_ h3 (v_sl ty _)
            simp only [effSlice, hu, hi', hq, Option.map_some, hkd, hkd2, optI_int rfl hc.1, optI_int rfl hc.2.1, List.length_map]
            rw [if_pos ⟨hc.2.2.1, hc.2.2.2, hla⟩]
            simp
          · cases h2
        · cases h
    · cases h
  · rename_i x hu
    obtain rfl := vs_str hv
    split at h
    · rename_i l hl hh
      rw [Option.map_eq_none_iff] at hh
      rw [Option.map_eq_some_iff] at hl
      obtain ⟨lo, rfl, rfl⟩ := hl
      subst hh
      split at h
      · rename_i li hli
        obtain ⟨kd, hkd⟩ := int hli
        obtain ⟨z, h2, h3⟩ := bindS h
        unfold sLoO at h2
        split at h2
        · rename_i hc
          injection h2 with h2
          subst h2
          refine gets ?_ h3 (v_str _)
          simp only [effSlice, hu, asS, Option.map_none, Option.map_some, hkd, optI_int rfl hc.1]
          simp only [optI]
          rw [if_pos ⟨hc.2, Nat.le_refl _⟩]
        · cases h2
      · cases h
    · rename_i l hl hh
      rw [Option.map_eq_none_iff] at hl
      rw [Option.map_eq_some_iff] at hh
      obtain ⟨hi2, rfl, rfl⟩ := hh
      subst hl
      split at h
      · rename_i li hli
        obtain ⟨kd, hkd⟩ := int hli
        obtain ⟨z, h2, h3⟩ := bindS h
        unfold sHiO at h2
        split at h2
        · rename_i hc
          injection h2 with h2
          subst h2
          refine gets ?_ h3 (v_str _)
          simp only [effSlice, hu, asS, Option.map_none, Option.map_some, hkd, optI_int rfl hc.1]
          simp only [optI]
          rw [if_pos ⟨Nat.zero_le _, hc.2⟩]
        · cases h2
      · cases h
    · rename_i l l' hl hh
      rw [Option.map_eq_some_iff] at hl hh
      obtain ⟨lo, rfl, rfl⟩ := hl
      obtain ⟨hi2, rfl, rfl⟩ := hh
      split at h
      · rename_i li hi3 hli hhi
        obtain ⟨kd, hkd⟩ := int hli
        obtain ⟨kd2, hkd2⟩ := int hhi
        obtain ⟨z, h2, h3⟩ := bindS h
        unfold sLhO at h2
        split at h2
        · rename_i hc
          injection h2 with h2
          subst h2
          refine gets ?_ h3 (v_str _)
          simp only [effSlice, hu, asS, Option.map_some, hkd, hkd2, optI_int rfl hc.1, optI_int rfl hc.2.1]
          rw [if_pos ⟨hc.2.2.1, hc.2.2.2⟩]
        · cases h2
      · cases h
    · cases h
  · cases h
theorem minmax_ok (mx : Bool) : ∀ (l : List SV) (v w : SV) (q : PV) (qs : List PV), VSim B v q → CSim B l qs → minmaxX mx v l = some w → ∃ r, (match mx with | true => effMaxL q qs | false => effMinL q qs) = some r ∧ VSim B w r
  | [], v, w, q, qs, hv, hl, h => by
    rcases hl.cases with ⟨_, rfl⟩ | ⟨_, _, _, _, h1, _⟩
    · have : v = w := by cases v <;> (injection h)
      subst this
      exact ⟨q, by cases mx <;> rfl, hv⟩
    · cases h1
  | u :: l, v, w, q, qs, hv, hl, h => by
    rcases hl.cases with ⟨h1, _⟩ | ⟨u', r, l', qs', h1, rfl, h2, h3⟩
    · cases h1
    · injection h1 with e1 e2
      subst e1 e2
      unfold minmaxX at h
      split at h
      · rename_i heq; cases heq
      · rename_i k x k' y l2 heq
        injection heq with e1 e2
        subst e1 e2
        obtain rfl := vs_int hv
        obtain rfl := vs_int h2
        obtain ⟨r', h4, h5⟩ := minmax_ok mx l _ w _ qs' (v_int _ _) h3 h
        refine ⟨r', ?_, h5⟩
        cases mx
        · simp only [effMinL, effMin, asI]; exact h4
        · simp only [effMaxL, effMax, asI]; exact h4
      · cases h
theorem lenX_ok (hs : Sim s p) {t : TypeId} {v : SV} {q : PV} {k : SV → Option ρ} {res : ρ} (hv : VSim s.bx v q) (h : lenX P s t v k = some res) : Gets s k res (effLen P t q) := by
  unfold lenX at h
  split at h
  · rename_i e hu
    split at h
    · rename_i ty xs hd
      refine gets ?_ h (v_int _ _)
      have : lenP q = some xs.length := by
        unfold dataX at hd
        split at hd
        · injection hd with hd
          subst hd
          rcases vs_sl hv with rfl | ⟨rfl, rfl⟩
          · simp [lenP]
          · rfl
        · obtain ⟨e, k, ty2, xs2, pins, h1, h2, rfl, h4⟩ := row_sim hs hv hd
          injection h2 with e1 e2
          subst e1
          have e2 := eq_of_heq e2
          subst e2
          rfl
        · cases hd
      simp [effLen, hu, this]
    · rename_i hd
      obtain rfl := data_nl hv hd
      exact gets (by simp [effLen, hu, lenP]) h (v_int _ _)
    · cases h
  · rename_i hu
    split at h
    · obtain rfl := vs_str hv
      exact gets (by simp [effLen, hu, asS]) h (v_int _ _)
    · cases h
  · cases h
end Go.Proofs.Ytcphpbhngnnpmaa

/- The typed executor: all operations, calls, regions. -/
namespace Go.Proofs.Ytcphpbhngnnpmaa
open Go.RowKit

variable {B : List (Nat × Option SBox)} {s : SS} {p : PS} {P : Program} {ρ : Type}
theorem evsX_sim (hs : Sim s p) : ∀ l : List Operand, CSim s.bx (evsX s l) (l.map (ev p))
  | [] => .nil
  | x :: l => .cons (evX_sim hs x) (evsX_sim hs l)
theorem pickX_ok {c : Bool} {v w z : SV} {q r : PV} (hv : VSim B v q) (hw : VSim B w r) (h : pickX c v w = some z) : VSim B z (if c then q else r) := by
  unfold pickX at h
  split at h
  · split at h
    · rename_i hk
      subst hk
      injection h with h
      subst h
      obtain rfl := vs_int hv
      obtain rfl := vs_int hw
      cases c
      · exact v_int _ _
      · exact v_int _ _
    · cases h
  · injection h with h
    subst h
    obtain rfl := vs_bool hv
    obtain rfl := vs_bool hw
    cases c
    · exact v_bool _
    · exact v_bool _
  · injection h with h
    subst h
    obtain rfl := vs_str hv
    obtain rfl := vs_str hw
    cases c
    · exact v_str _
    · exact v_str _
  · cases c
    · injection h with h; subst h; exact hw
    · injection h with h; subst h; exact hv
theorem sIdx_spec {x : ByteArray} {i z : Int} (h : sIdxO x i = some z) : 0 ≤ i ∧ ∃ c : UInt8, x.data.toList[i.toNat]? = some c ∧ z = (c.toNat : Int) := by
  unfold sIdxO at h
  split at h
  · rename_i h0
    rw [Option.map_eq_some_iff] at h
    obtain ⟨c, h1, h2⟩ := h
    exact ⟨h0, c, h1, h2.symm⟩
  · cases h
theorem effX_ok {o : Oper} (hs : Sim s p) {k : SV → Upd → Option ρ} {res : ρ} (hst : ∀ t x y, o.op = .store t x y → o.dst = none) (h : effX P o s k = some res) : Done s p o.dst k res (eff P o p) := by
  unfold effX at h
  unfold eff
  split at h
  all_goals
    rename_i ho
    simp only [ho]
  · exact ⟨_, .no, _, none, rfl, h, sim_no hs (evX_sim hs _), trivial, okW_none⟩
  · exact ⟨_, .no, _, none, rfl, h, sim_no hs (evX_sim hs _), trivial, okW_none⟩
  · rename_i c x y
    split at h
    · rename_i t hc
      split at h
      · rename_i v hv
        have hq := evX_sim hs c
        rw [hc] at hq
        have hb : asB (ev p c) = some t := by rw [vs_bool hq]; rfl
        simp only [hb]
        exact ⟨_, .no, _, none, rfl, h, sim_no hs (pickX_ok (evX_sim hs x) (evX_sim hs y) hv), trivial, okW_none⟩
      · cases h
    · cases h
  · rename_i e
    split at h
    · rename_i t i hd hi
      split at h
      · rename_i z hb hz
        obtain ⟨h1, h2⟩ := chk_some h
        obtain ⟨hfr, h1⟩ := newB_spec h1
        have hbd : p.b t = none := by have := hs.bx t; rw [hb] at this; exact this hfr
        refine ⟨_, _, .ptr t 0, some (t, .st e (zerosP i)), ?_, h2, ?_, ⟨h1, hb⟩, okW_new hb hd⟩
        · simp [effAlloc, hd, hi, hbd]
        · exact sim_box hs (ble_new hb) (fun _ => ⟨_, rfl, zeros_sim hz⟩) (.ptr t 0 _ _ (by rw [lkB_cons, if_pos rfl]))
      · cases h
    · cases h
  · rename_i e x
    split at h
    · rename_i t cs hd hc
      split at h
      · rename_i hb
        obtain ⟨h1, h2⟩ := chk_some h
        obtain ⟨hfr, h1⟩ := newB_spec h1
        have hbd : p.b t = none := by have := hs.bx t; rw [hb] at this; exact this hfr
        obtain ⟨qs, h3, h4⟩ := cells_sim (evX_sim hs x) hc
        refine ⟨_, _, .ptr t 0, some (t, .st e qs), ?_, h2, ?_, ⟨h1, hb⟩, okW_new hb hd⟩
        · simp [effBox, hd, h3, hbd]
        · exact sim_box hs (ble_new hb) (fun _ => ⟨_, rfl, h4.mono (ble_new hb)⟩) (.ptr t 0 _ _ (by rw [lkB_cons, if_pos rfl]))
      · cases h
    · cases h
  · rename_i t ps
    split at h
    · rename_i i fl hi hf
      split at h
      · rename_i z hz
        split at h
        · rename_i cs hcs
          obtain ⟨qs, h1, h2⟩ := fill_sim hs _ (zeros_sim hz) hcs
          refine ⟨_, .no, .ag qs, none, ?_, h, sim_no hs (.ag _ _ h2.len h2.rep), trivial, okW_none⟩
          simp only [effBuild, hi, hf, h1]
          rfl
        · cases h
      · cases h
    · cases h
  · exact buildSliceX_ok hs h
  · rename_i t x
    split at h
    · rename_i v hv
      obtain ⟨r, h1, h2⟩ := loadX_ok hs (evX_sim hs x) hv
      exact ⟨_, .no, r, none, by simp [h1], h, sim_no hs h2, trivial, okW_none⟩
    · cases h
  · rename_i t x y
    exact storeX_ok hs (hst _ _ _ ho) (evX_sim hs x) (evX_sim hs y) h
  · rename_i op t x y yt
    exact (binX_ok (evX_sim hs x) (evX_sim hs y) (fun n kd z hn hz => lit_spec hn hz) h).done hs
  · rename_i op t x
    exact (unX_ok (evX_sim hs x) h).done hs
  · rename_i src dst x
    exact (convX_ok hs (evX_sim hs x) h).done hs
  · rename_i t x lo hi
    exact (sliceX_ok hs (evX_sim hs x) h).done hs
  · rename_i t x f
    exact (fieldAddrX_ok (evX_sim hs x) h).done hs
  · rename_i t x f
    exact (fieldX_ok (evX_sim hs x) h).done hs
  · rename_i t x i
    exact indexAddrX_ok hs (evX_sim hs x) (evX_sim hs i) h
  · rename_i x i
    split at h
    · rename_i vs hv
      split at h
      · rename_i v hvi
        have hq := evX_sim hs x
        rw [hv] at hq
        obtain ⟨qs, h1, h2⟩ := vs_tup hq
        have hlt : i < qs.length := by rw [← h2.len]; exact (List.getElem?_eq_some_iff.1 hvi).1
        have hqi : qs[i]? = some qs[i] := by simp [hlt]
        refine ⟨_, .no, qs[i], none, ?_, h, sim_no hs (h2.rep i _ _ hvi hqi), trivial, okW_none⟩
        simp [effExtract, h1, hqi]
      · cases h
    · cases h
  · rename_i t x i
    split at h
    · rename_i sx kd ix hu hx hi
      obtain ⟨z, h1, h2⟩ := bindS h
      obtain ⟨h3, c, h4, rfl⟩ := sIdx_spec h1
      have hq := evX_sim hs x
      rw [hx] at hq
      have hr := evX_sim hs i
      rw [hi] at hr
      refine ⟨_, .no, _, none, ?_, h2, sim_no hs (v_int .u8 _), trivial, okW_none⟩
      simp [effIdx, hu, vs_str hq, vs_int hr, asS, asI, h3, h4]
    · cases h
  · rename_i c
    split at h
    · rename_i f hf
      simp only [hf]
      unfold builtinX at h
      unfold effBuiltin
      have hargs := evsX_sim hs c.args.toList
      split at h
      · split at h
        · rename_i x t hx ht
          rw [hx] at hargs
          rcases hargs.cases with ⟨h1, _⟩ | ⟨v, q, vs, qs, h1, h2, h3, h4⟩
          · cases h1
          · injection h1 with e1 e2
            subst e1 e2
            rcases h4.cases with ⟨_, rfl⟩ | ⟨_, _, _, _, h5, _⟩
            · simp only [h2, ht]
              exact (lenX_ok hs h3 h).done hs
            · cases h5
        · cases h
      · split at h
        · rename_i x y t t' hx ht
          rw [hx] at hargs
          rcases hargs.cases with ⟨h1, _⟩ | ⟨v, q, vs, qs, h1, h2, h3, h4⟩
          · cases h1
          · injection h1 with e1 e2
            subst e1 e2
            rcases h4.cases with ⟨h5, _⟩ | ⟨v2, q2, vs2, qs2, h5, h6, h7, h8⟩
            · cases h5
            · injection h5 with e1 e2
              subst e1 e2
              rcases h8.cases with ⟨_, rfl⟩ | ⟨_, _, _, _, h9, _⟩
              · subst h6
                simp only [h2, ht]
                split at h
                · rename_i htt
                  have htt : t' = t := by simpa using htt
                  rw [if_pos htt]
                  exact (appendX_ok hs h3 h7 h).1
                · cases h
              · cases h9
        · cases h
      · split at h
        · rename_i x xs hx
          rw [hx] at hargs
          rcases hargs.cases with ⟨h1, _⟩ | ⟨v, q, vs, qs, h1, h2, h3, h4⟩
          · cases h1
          · injection h1 with e1 e2
            subst e1 e2
            split at h
            · rename_i w hw
              obtain ⟨r, h5, h6⟩ := minmax_ok false xs x w q qs h3 h4 hw
              simp only [h2]
              exact ⟨_, .no, r, none, by simp [show effMinL q qs = some r from h5], h, sim_no hs h6, trivial, okW_none⟩
            · cases h
        · cases h
      · split at h
        · rename_i x xs hx
          rw [hx] at hargs
          rcases hargs.cases with ⟨h1, _⟩ | ⟨v, q, vs, qs, h1, h2, h3, h4⟩
          · cases h1
          · injection h1 with e1 e2
            subst e1 e2
            split at h
            · rename_i w hw
              obtain ⟨r, h5, h6⟩ := minmax_ok true xs x w q qs h3 h4 hw
              simp only [h2]
              exact ⟨_, .no, r, none, by simp [show effMaxL q qs = some r from h5], h, sim_no hs h6, trivial, okW_none⟩
            · cases h
        · cases h
      · cases h
    · cases h
  · cases h

/-! ### Calls -/
def toPV : (p : PT) → p.den → PV
  | .lf t, x => .d (enc1 t x).toD
  | .ag i, x => .ag ((stD i x).map .d)
def toPVs : (ps : List PT) → dens ps → List PV
  | [], _ => []
  | p :: ps, x => toPV p x.1 :: toPVs ps x.2
def toRs : (rs : List PT) → densR rs → List PV
  | [], _ => []
  | [p], x => [toPV p x]
  | p :: q :: l, x => toPV p x.1 :: toRs (q :: l) x.2
def toR (rs : List PT) (x : densR rs) : PV := match rs, x with
  | [p], x => toPV p x
  | rs, x => .tup (toRs rs x)
/-- What a function answers, said by a plain one. -/
def CtrOk (P : Program) (f : FuncId) (ps rs : List PT) (F : dens ps → Option (densR rs)) : Prop := ∀ x r, F x = some r → PC P f (toPVs ps x) (toR rs r)
def TabOk (P : Program) (T : List (Nat × Ent)) : Prop := ∀ f en, lkE T f = some en → CtrOk P f en.ps en.rs en.f
theorem TabOk.nil : TabOk P [] := fun f en h => by cases h
theorem TabOk.cons {T : List (Nat × Ent)} {f : FuncId} {ps rs : List PT} {F : dens ps → Option (densR rs)} (h : CtrOk P f ps rs F) (hT : TabOk P T) : TabOk P ((f, ⟨ps, rs, F⟩) :: T) := by
  intro g en hg
  simp only [lkE, beq_spec] at hg
  by_cases e : g = f
  · subst e
    simp only [decide_true] at hg
    injection hg with hg
    subst hg
    exact h
  · simp only [e, decide_false] at hg
    exact hT g en hg
theorem enc1_as {t : Ty} {c : SD} {x : t.den} (h : c.as t = some x) : (enc1 t x).toD = c.toD := by
  have h1 := SD.as_ok h
  cases t with
  | st i => simp [SD.as] at h
  | _ => simp only [encE, List.cons.injEq, and_true] at h1; exact h1
theorem decA_ok (hs : Sim s p) {t : PT} {v : SV} {q : PV} {x : t.den} (hv : VSim s.bx v q) (h : decA s t v = some x) : asData p.b q = toPV t x ∧ (norow v = true → clean q = true ∧ asData bNone q = toPV t x) := by
  unfold decA at h
  split at h
  · rename_i t v
    split at h
    · rename_i c hc
      have := data_d hs hv hc
      simp only [toPV, enc1_as h]
      exact this
    · cases h
  · rename_i i cs
    split at h
    · rename_i ds hds
      obtain ⟨qs, rfl, hq⟩ := vs_ag hv
      obtain ⟨h1, h2⟩ := datas_d hs hq hds
      have h3 := stK_ok h
      have e : ds.map (fun c => PV.d c.toD) = (stD i x).map .d := by rw [← h3, List.map_map]; rfl
      refine ⟨by simp only [asData, h1, e, toPV], fun hn => ?_⟩
      obtain ⟨h4, h5⟩ := h2 hn
      exact ⟨by simpa [clean] using h4, by simp only [asData, h5, e, toPV]⟩
    · cases h
  · cases h
theorem decAs_ok (hs : Sim s p) : ∀ {ps : List PT} {vs : List SV} {qs : List PV} {x : dens ps}, CSim s.bx vs qs → decAs s ps vs = some x → asDatas p.b qs = toPVs ps x ∧ (norows vs = true → cleans qs = true ∧ asDatas bNone qs = toPVs ps x)
  | [], [], qs, x, hv, h => by
    rcases hv.cases with ⟨_, rfl⟩ | ⟨_, _, _, _, h1, _⟩
    · simp [asDatas, toPVs, cleans]
    · cases h1
  | [], _ :: _, _, _, _, h => by cases h
  | _ :: _, [], _, _, _, h => by cases h
  | t :: ps, v :: vs, qs, x, hv, h => by
    rcases hv.cases with ⟨h1, _⟩ | ⟨v', q, vs', qs', h1, rfl, h2, h3⟩
    · cases h1
    · injection h1 with e1 e2
      subst e1 e2
      simp only [decAs] at h
      obtain ⟨y, h4, h5⟩ := bindS h
      obtain ⟨ys, h6, h7⟩ := bindS h5
      injection h7 with h7
      subst h7
      obtain ⟨m1, m2⟩ := decA_ok hs h2 h4
      obtain ⟨m3, m4⟩ := decAs_ok hs h3 h6
      refine ⟨by simp [asDatas, toPVs, m1, m3], fun hn => ?_⟩
      simp only [norows] at hn
      split at hn
      · rename_i hn1
        obtain ⟨n1, n2⟩ := m2 hn1
        obtain ⟨n3, n4⟩ := m4 hn
        simp [asDatas, cleans, toPVs, n1, n2, n3, n4]
      · cases hn
theorem st_sim (i : Nat) (x : ST i) : CSim B (mapD (stC i x)) ((stD i x).map .d) := by
  rw [← stC_ok i x]
  exact mapD_sim _ (stC_nl i x)
theorem encA_sim : ∀ (t : PT) (x : t.den), (∀ i, t ≠ .lf (.st i)) → VSim B (encA t x) (toPV t x)
  | .lf (.int _), x, _ => v_int _ _
  | .lf .bool, x, _ => v_bool _
  | .lf .str, x, _ => v_str _
  | .lf (.sl t), x, _ => v_sl t x
  | .lf (.st i), x, h => absurd rfl (h i)
  | .ag i, x, _ => .ag _ _ (st_sim (B := B) i x).len (st_sim i x).rep
theorem ptOk_ne {t : PT} (h : ptOk t = true) : ∀ i, t ≠ .lf (.st i) := fun i e => by subst e; cases h
theorem encAs_sim : ∀ (ps : List PT) (x : dens ps), ptsOk ps = true → CSim B (encAs ps x) (toPVs ps x)
  | [], _, _ => .nil
  | p :: ps, x, h => by
    simp only [ptsOk] at h
    split at h
    · rename_i hp; exact .cons (encA_sim p x.1 (ptOk_ne hp)) (encAs_sim ps x.2 h)
    · cases h
theorem encRs_sim : ∀ (rs : List PT) (x : densR rs), ptsOk rs = true → CSim B (encRs rs x) (toRs rs x)
  | [], _, _ => .nil
  | [p], x, h => by
    simp only [ptsOk] at h
    split at h
    · rename_i hp; exact .cons (encA_sim p x (ptOk_ne hp)) .nil
    · cases h
  | p :: q :: l, x, h => by
    have h' : ptOk p = true ∧ ptsOk (q :: l) = true := by
      rw [ptsOk] at h
      split at h
      · rename_i hp; exact ⟨hp, h⟩
      · cases h
    exact .cons (encA_sim p x.1 (ptOk_ne h'.1)) (encRs_sim (q :: l) x.2 h'.2)
theorem encR_sim (rs : List PT) (x : densR rs) (h : ptsOk rs = true) : VSim B (encR rs x) (toR rs x) := by
  match rs, x, h with
  | [], x, h => exact .tup _ _ rfl (fun j c q h1 => by simp [encRs] at h1)
  | [p], x, h =>
    have := encRs_sim (B := B) [p] x h
    exact this.head
  | p :: q :: l, x, h =>
    have := encRs_sim (B := B) (p :: q :: l) x h
    exact .tup _ _ this.len this.rep
theorem flat_cells : ∀ {ds : List D}, (∀ d ∈ ds, ∃ x, d = .v x) → flats (ds.map .d) = true
  | [], _ => rfl
  | d :: ds, h => by
    obtain ⟨x, rfl⟩ := h d List.mem_cons_self
    simp [flats, flat, flat_cells (fun d hd => h d (List.mem_cons_of_mem _ hd))]
theorem flat_toPV : ∀ (t : PT) (x : t.den), t.flat = true → flat (toPV t x) = true
  | .lf (.int _), _, _ => rfl
  | .lf .bool, _, _ => rfl
  | .lf .str, _, _ => rfl
  | .lf (.sl _), _, h => by cases h
  | .lf (.st _), _, h => by cases h
  | .ag i, x, h => by
    simp only [toPV, flat]
    exact flat_cells (stF_ok i x h)
theorem flat_toRs : ∀ (rs : List PT) (x : densR rs), flatAll rs = true → flats (toRs rs x) = true
  | [], _, _ => rfl
  | [p], x, h => by
    simp only [flatAll] at h
    split at h
    · rename_i hp; simp [toRs, flats, flat_toPV p x hp]
    · cases h
  | p :: q :: l, x, h => by
    have h' : p.flat = true ∧ flatAll (q :: l) = true := by
      rw [flatAll] at h
      split at h
      · rename_i hp; exact ⟨hp, h⟩
      · cases h
    simp [toRs, flats, flat_toPV p x.1 h'.1, flat_toRs (q :: l) x.2 h'.2]
theorem clean_cells : ∀ (ds : List D), cleans (ds.map .d) = true
  | [] => rfl
  | d :: ds => by simp [cleans, clean, clean_cells ds]
theorem clean_toPV : ∀ (t : PT) (x : t.den), clean (toPV t x) = true
  | .lf _, _ => rfl
  | .ag i, x => by simp [toPV, clean, clean_cells]
theorem clean_toRs : ∀ (rs : List PT) (x : densR rs), cleans (toRs rs x) = true
  | [], _ => rfl
  | [p], x => by simp only [toRs, cleans, Bool.and_true]; exact clean_toPV p x
  | p :: q :: l, x => by simp only [toRs, cleans, Bool.and_eq_true]; exact ⟨clean_toPV p x.1, clean_toRs (q :: l) x.2⟩
theorem toR_cases (rs : List PT) (x : densR rs) : (∃ p, toRs rs x = [p] ∧ toR rs x = p) ∨ toR rs x = .tup (toRs rs x) := by
  match rs, x with
  | [], x => exact .inr rfl
  | [p], x => exact .inl ⟨_, rfl, rfl⟩
  | p :: q :: l, x => exact .inr rfl
theorem flat_toR (rs : List PT) (x : densR rs) (h : flatAll rs = true) : flat (toR rs x) = true := by
  have := flat_toRs rs x h
  rcases toR_cases rs x with ⟨p, h1, h2⟩ | h1
  · rw [h1] at this
    rw [h2]
    simpa [flats] using this
  · rw [h1]
    simpa [flat] using this
theorem clean_toR (rs : List PT) (x : densR rs) : clean (toR rs x) = true := by
  have := clean_toRs rs x
  rcases toR_cases rs x with ⟨p, h1, h2⟩ | h1
  · rw [h1] at this
    rw [h2]
    simpa [cleans] using this
  · rw [h1]
    simpa [clean] using this
theorem callX_ok {T : List (Nat × Ent)} (hT : TabOk P T) (hs : Sim s p) {f : Nat} {xs : List Operand} {k : SV → Option ρ} {res : ρ} (h : callX T f s (evsX s xs) k = some res) : ∃ v r, CallOk P f p.b (xs.map (ev p)) r ∧ k v = some res ∧ VSim s.bx v r := by
  unfold callX at h
  split at h
  · cases h
  · rename_i en hen
    have h0 := (chk_some h).1
    replace h := (chk_some h).2
    have h1 := (chk_some h).1
    replace h := (chk_some h).2
    obtain ⟨x, h2, h⟩ := bindS h
    obtain ⟨r, h3, h4⟩ := bindS h
    obtain ⟨m1, m2⟩ := decAs_ok hs (evsX_sim hs xs) h2
    have hc := hT f en hen x r h3
    refine ⟨_, toR en.rs r, ?_, h4, encR_sim en.rs r h0⟩
    simp only [Bool.or_eq_true] at h1
    rcases h1 with h1 | h1
    · obtain ⟨n1, n2⟩ := m2 h1
      exact .inl ⟨n1, clean_toR _ _, by rw [n2]; exact hc⟩
    · exact .inr ⟨flat_toR _ _ h1, by rw [m1]; exact hc⟩
end Go.Proofs.Ytcphpbhngnnpmaa

/- Generic walks: a nil slice in a struct's box, as a row of the call's own. -/
namespace Go.Proofs.Ytcphpbhngnnpmaa
open Go.RowKit
section
variable {P : Program} {n : Nat} {Qs : Exit → PS → Prop} {c : Code}
theorem pwp_nilcell (i t j e k : Nat) {ty : TypeId} {cs : List PV} {l : List (Nat × PV)} {m : List (Nat × Box)} (hb : lkb m t = some (.st ty cs)) (hc : cs[j]? = some (.d (.v (.slice none 0 0)))) (hi : lkb m i = none) (hk : 0 < k)
    (h : PWP P n c Qs (St l (insb (insb m i (.rw e k [])) t (.st ty (cs.set j (.row i 0)))))) : PWP P n c Qs (St l m) := by
  refine fun w0 F0 a w hcn => h w0 F0 a w ?_
  obtain ⟨h1, h2, ρ, F, hinv, hev⟩ := hcn
  have hnew := newRw (P := default) (t := i) (e := e) (k := k) (es := []) (xs := []) (v := .slice none 0 0) (w' := w) hinv (show (St l m).b i = none from hi) hk (Ext.refl w) (fun g hg => by cases hg) (World.ownsRow_nil w _ e k) (by simp) rfl (by simp)
  obtain ⟨v, w', ρ', hok, k1, k2, k3⟩ := hnew
  injection hok with e1 e2
  subst e1 e2
  have hti : t ≠ i := fun e => by rw [e, hi] at hb; cases hb
  have hb1 : (bupd (St l m).b (some (i, .rw e k []))) t = some (.st ty cs) := by rw [bupd_ne _ _ hti]; exact hb
  have hbi : (bupd (St l m).b (some (i, .rw e k []))) i = some (.rw e k []) := bupd_same _ _ _
  have hs2 : Stp ρ' (bupd (St l m).b (some (i, .rw e k []))) w F ρ' (bupd (bupd (St l m).b (some (i, .rw e k []))) (some (t, .st ty (cs.set j (.row i 0))))) w F := by
    refine ⟨fun _ h => h, fun _ _ => rfl, fun t' ty' cs' h => ⟨?_, rfl⟩, fun t' e' k' es h => ?_⟩
    · by_cases h' : t' = t
      · subst h'; rw [bupd_same]; exact ⟨_, _, rfl⟩
      · rw [bupd_ne _ _ h']; exact ⟨_, _, h⟩
    · have h' : t' ≠ t := fun e => by rw [e, hb1] at h; cases h
      rw [bupd_ne _ _ h']
      exact ⟨e', es, h, Nat.le_refl _, fun _ => rfl⟩
  have hinv2 : Inv w0 F0 ρ' (bupd (bupd (St l m).b (some (i, .rw e k []))) (some (t, .st ty (cs.set j (.row i 0))))) w F := by
    have hs3 := hs2
    rw [← rupd_self ρ' t] at hs3
    have := Inv.turn (v := ρ' t) (B' := .st ty (cs.set j (.row i 0))) (w' := w) k1 hb1 (by rw [rupd_self] at hs3 ⊢; exact hs2) k1.ext (Nat.le_refl _) (fun _ _ _ => rfl) (fun g hg => .inl hg) ?_
    · rw [rupd_self] at this; exact this
    · rw [rupd_self]
      cases k1.box t _ hb1 with
      | st _ _ g xs hρ hg hF hh hl h1x hr =>
        refine .st ty _ g xs hρ hg hF hh (by rw [List.length_set]; exact hl) h1x (fun p x c h4 h5 => ?_)
        rw [List.getElem?_set] at h5
        split at h5
        · rename_i hjp
          subst hjp
          split at h5
          · injection h5 with h5
            subst h5
            have hx := hr j x _ h4 hc
            obtain ⟨hx, _⟩ := hx.vv
            rw [hx]
            exact k3.mono hs2
          · cases h5
        · exact (hr p x c h4 h5).mono hs2
  refine ⟨h1, h2, ρ', F, ?_, fun q => ?_⟩
  · have : (St l (insb (insb m i (.rw e k [])) t (.st ty (cs.set j (.row i 0))))).b = bupd (bupd (St l m).b (some (i, .rw e k []))) (some (t, .st ty (cs.set j (.row i 0)))) := by
      funext q
      simp only [St, bupd, lkb_insb]
    rw [this]
    exact hinv2
  · have := ((hev q).mono k2).mono hs2
    have e3 : (St l (insb (insb m i (.rw e k [])) t (.st ty (cs.set j (.row i 0))))).b = bupd (bupd (St l m).b (some (i, .rw e k []))) (some (t, .st ty (cs.set j (.row i 0)))) := by
      funext q
      simp only [St, bupd, lkb_insb]
    rw [e3]
    exact this
end
end Go.Proofs.Ytcphpbhngnnpmaa

/- The typed executor: what may be forgotten, frozen, begun. -/
namespace Go.Proofs.Ytcphpbhngnnpmaa
open Go.RowKit

/-- Whatever is as p says is as p' says. -/
def Le (p p' : PS) : Prop := ∀ (n : Nat) (w0 : World) (F0 : Nat → Prop) (a : Act) (w : World), Conc n w0 F0 p a w → Conc n w0 F0 p' a w
theorem Le.refl (p : PS) : Le p p := fun _ _ _ _ _ h => h
theorem Le.trans {p p' p'' : PS} (h : Le p p') (h' : Le p' p'') : Le p p'' := fun n w0 F0 a w hc => h' n w0 F0 a w (h n w0 F0 a w hc)
theorem pwp_le {P : Program} {n : Nat} {c : Code} {Q : Exit → PS → Prop} {p p' : PS} (hl : Le p p') (h : PWP P n c Q p') : PWP P n c Q p := fun w0 F0 a w hc => h w0 F0 a w (hl n w0 F0 a w hc)
theorem pwp_conseq {P : Program} {n : Nat} {c : Code} {Q Q' : Exit → PS → Prop} {p : PS} (h : PWP P n c Q p) (hq : ∀ e p', Q e p' → ∃ p'', Le p' p'' ∧ Q' e p'') : PWP P n c Q' p :=
  fun w0 F0 a w hc => wp_mono (h w0 F0 a w hc) fun e a' w' ⟨s', h1, h2⟩ => by
    obtain ⟨p'', h3, h4⟩ := hq e s' h1
    exact ⟨p'', h4, h3 n w0 F0 a' w' h2⟩

/-- As a typed state says, as far as it says. -/
structure SimW (s : SS) (p : PS) : Prop where
  sl : ∀ i, VSim s.bx (lkV s.sl i) (p.t i)
  bx : ∀ t b, lkB s.bx t = some b → BSim s.bx true (some b) (p.b t)
theorem BSim.some {B : List (Nat × Option SBox)} {o o' : Bool} {b : SBox} {q : Option Box} (h : BSim B o (some b) q) : BSim B o' (some b) q := by cases b <;> exact h
theorem Sim.w {s : SS} {p : PS} (h : Sim s p) : SimW s p := ⟨h.sl, fun t b hb => by have := h.bx t; rw [hb] at this; exact this.some⟩

/-! ### The cut -/
mutual
def cutV : SV → PV → PV
  | .junk, _ => .junk
  | .ag cs, .ag qs => .ag (cutVs cs qs)
  | .tup cs, .tup qs => .tup (cutVs cs qs)
  | _, q => q
def cutVs : List SV → List PV → List PV
  | [], _ => []
  | _, [] => []
  | c :: cs, q :: qs => cutV c q :: cutVs cs qs
end
def cutB : SBox → Box → Box
  | .st _ cs, .st ty qs => .st ty (cutVs cs qs)
  | _, b => b
def cutP (s : SS) (p : PS) : PS := ⟨fun i => cutV (lkV s.sl i) (p.t i), fun t => match lkB s.bx t with | none => none | some b => (p.b t).map (cutB b)⟩
theorem cutVs_len : ∀ (cs : List SV) (qs : List PV), cs.length = qs.length → (cutVs cs qs).length = qs.length
  | [], [], _ => rfl
  | [], _ :: _, h => by simp at h
  | _ :: _, [], h => by simp at h
  | c :: cs, q :: qs, h => by simp only [cutVs, List.length_cons, cutVs_len cs qs (by simpa using h)]
theorem cutVs_get : ∀ (cs : List SV) (qs : List PV) (j : Nat) (r : PV), (cutVs cs qs)[j]? = some r → ∃ c q, cs[j]? = some c ∧ qs[j]? = some q ∧ r = cutV c q
  | [], qs, j, r, h => by simp [cutVs] at h
  | _ :: _, [], j, r, h => by simp [cutVs] at h
  | c :: cs, q :: qs, 0, r, h => by simp [cutVs] at h; exact ⟨c, q, rfl, rfl, h.symm⟩
  | c :: cs, q :: qs, j + 1, r, h => by
    simp [cutVs] at h
    simpa using cutVs_get cs qs j r h
theorem vsim_cut {B : List (Nat × Option SBox)} {v : SV} {q : PV} (h : VSim B v q) : VSim B v (cutV v q) := by
  induction h with
  | junk q => exact .junk _
  | d c y h => exact .d c y h
  | ag cs qs hl hr ih =>
    refine .ag cs _ (by rw [cutVs_len cs qs hl]; exact hl) (fun j c r h1 h2 => ?_)
    obtain ⟨c', q', h3, h4, rfl⟩ := cutVs_get cs qs j r h2
    rw [h1] at h3
    injection h3 with h3
    subst h3
    exact ih j c q' h1 h4
  | tup cs qs hl hr ih =>
    refine .tup cs _ (by rw [cutVs_len cs qs hl]; exact hl) (fun j c r h1 h2 => ?_)
    obtain ⟨c', q', h3, h4, rfl⟩ := cutVs_get cs qs j r h2
    rw [h1] at h3
    injection h3 with h3
    subst h3
    exact ih j c q' h1 h4
  | ptr t o ty cs hb => exact .ptr t o ty cs hb
  | row t n e k ty xs pins hb hn => exact .row t n e k ty xs pins hb hn
  | re t p o n i e k ty xs pins pin hb hn hp hi => exact .re t p o n i e k ty xs pins pin hb hn hp hi
  | fe cs ds h hn => exact .fe cs ds h hn
theorem csim_cut {B : List (Nat × Option SBox)} {cs : List SV} {qs : List PV} (h : CSim B cs qs) : CSim B cs (cutVs cs qs) :=
  ⟨by rw [cutVs_len cs qs h.len]; exact h.len, fun j c r h1 h2 => by
    obtain ⟨c', q', h3, h4, rfl⟩ := cutVs_get cs qs j r h2
    rw [h1] at h3
    injection h3 with h3
    subst h3
    exact vsim_cut (h.rep j c q' h1 h4)⟩
section
variable {ρ : Nat → Value} {b b' : Nat → Option Box} {w : World} {F : Nat → Prop} {B : List (Nat × Option SBox)}
theorem prep_cut (hst : ∀ t ty cs ty' qs, lkB B t = some (.st ty cs) → b t = some (.st ty' qs) → ∃ ty2 qs2, b' t = some (.st ty2 qs2)) (hrw : ∀ t e k ty xs pins, lkB B t = some (.rw e k ty xs pins) → b' t = b t) {v : SV} {q : PV} (hv : VSim B v q) :
    ∀ {x : Value}, PRep ρ b w F x q → PRep ρ b' w F x (cutV v q) := by
  induction hv with
  | junk q => exact fun _ => .junk _
  | d c y h =>
    intro x hp
    cases hp with
    | d _ _ h => exact .d _ _ h
  | ag cs qs hl hr ih =>
    intro x hp
    cases hp with
    | ag xs _ hl2 h1 hr2 =>
      refine .ag xs _ (by rw [cutVs_len cs qs hl]; exact hl2) h1 (fun j x r h2 h3 => ?_)
      obtain ⟨c, q, h4, h5, rfl⟩ := cutVs_get cs qs j r h3
      exact ih j c q h4 h5 (hr2 j x q h2 h5)
  | tup cs qs hl hr ih =>
    intro x hp
    cases hp with
    | tup xs _ hl2 hr2 =>
      refine .tup xs _ (by rw [cutVs_len cs qs hl]; exact hl2) (fun j x r h2 h3 => ?_)
      obtain ⟨c, q, h4, h5, rfl⟩ := cutVs_get cs qs j r h3
      exact ih j c q h4 h5 (hr2 j x q h2 h5)
  | ptr t o ty cs hb =>
    intro x hp
    cases hp with
    | ptr _ _ g ty' qs h1 h2 =>
      obtain ⟨ty2, qs2, h3⟩ := hst t ty cs ty' qs hb h1
      exact .ptr t o g ty2 qs2 h3 h2
  | row t n e k ty xs pins hb hn =>
    intro x hp
    cases hp with
    | row _ _ A c e2 k2 es h1 h2 h3 h4 h5 => exact .row t n A c e2 k2 es (by rw [hrw t e k ty xs pins hb]; exact h1) h2 h3 h4 h5
  | re t p o n i e k ty xs pins pin hb hn hp hi =>
    intro x hx
    cases hx with
    | re _ _ _ _ a e2 k2 es h1 h2 h3 h4 => exact .re t n i o a e2 k2 es (by rw [hrw t e k ty xs pins hb]; exact h1) h2 h3 h4
  | fe cs ds h hn =>
    intro x hx
    cases hx with
    | fe a _ us h1 h2 h3 => exact .fe a ds us h1 h2 h3
end
theorem simW_cut {s : SS} {p : PS} (h : SimW s p) : Sim ⟨s.sl, s.bx, s.pr, s.ro, []⟩ (cutP s p) := by
  refine ⟨fun i => vsim_cut (h.sl i), fun t => ?_⟩
  show BSim s.bx (memN [] t) (lkB s.bx t) (match lkB s.bx t with | none => none | some b => (p.b t).map (cutB b))
  cases hb : lkB s.bx t with
  | none => exact fun _ => rfl
  | some bx =>
    have h1 := h.bx t bx hb
    cases bx with
    | st ty cs =>
      obtain ⟨qs, h2, h3⟩ := h1
      rw [h2]
      exact ⟨cutVs cs qs, rfl, csim_cut h3⟩
    | rw e k ty xs pins =>
      obtain ⟨h2, h3⟩ := h1
      rw [h2]
      exact ⟨rfl, h3⟩
theorem le_cut {s : SS} {p : PS} (h : SimW s p) : Le p (cutP s p) := by
  intro n w0 F0 a w ⟨h1, h2, ρ, F, hi, hev⟩
  have hst : ∀ t ty cs ty' qs, lkB s.bx t = some (.st ty cs) → p.b t = some (.st ty' qs) → ∃ ty2 qs2, (cutP s p).b t = some (.st ty2 qs2) := fun t ty cs ty' qs k1 k2 => by
    refine ⟨ty', cutVs cs qs, ?_⟩
    show (match lkB s.bx t with | none => none | some b => (p.b t).map (cutB b)) = _
    rw [k1, k2]; rfl
  have hrw : ∀ t e k ty xs pins, lkB s.bx t = some (.rw e k ty xs pins) → (cutP s p).b t = p.b t := fun t e k ty xs pins k1 => by
    show (match lkB s.bx t with | none => none | some b => (p.b t).map (cutB b)) = _
    rw [k1, (h.bx t _ k1).1]; rfl
  have hb : ∀ t Bx, (cutP s p).b t = some Bx → ∃ b B0, lkB s.bx t = some b ∧ p.b t = some B0 ∧ Bx = cutB b B0 := fun t Bx k => by
    have k : (match lkB s.bx t with | none => none | some b => (p.b t).map (cutB b)) = some Bx := k
    cases hl : lkB s.bx t with
    | none => rw [hl] at k; cases k
    | some b =>
      rw [hl] at k
      rw [Option.map_eq_some_iff] at k
      obtain ⟨B0, k1, k2⟩ := k
      exact ⟨b, B0, rfl, k1, k2.symm⟩
  refine ⟨h1, h2, ρ, F, ⟨hi.ext, hi.f0, hi.flt, hi.fnew, fun t Bx k => ?_, fun t t' Bx Bx' g k1 k2 => ?_⟩, fun i => prep_cut hst hrw (h.sl i) (hev i)⟩
  · obtain ⟨b, B0, k1, k2, rfl⟩ := hb t Bx k
    have hbx := hi.box t B0 k2
    have hs := h.bx t b k1
    cases b with
    | st ty cs =>
      obtain ⟨qs, k3, k4⟩ := hs
      rw [k2] at k3
      injection k3 with k3
      subst k3
      cases hbx with
      | st _ _ g xs hρ hg hF hh hl h1x hr =>
        refine .st ty _ g xs hρ hg hF hh (by rw [cutVs_len cs qs k4.len]; exact hl) h1x (fun j x r m1 m2 => ?_)
        obtain ⟨c, q, m3, m4, rfl⟩ := cutVs_get cs qs j r m2
        exact prep_cut hst hrw (k4.rep j c q m3 m4) (hr j x q m1 m4)
    | rw e k ty xs pins =>
      obtain ⟨k3, _⟩ := hs
      rw [k2] at k3
      injection k3 with k3
      subst k3
      cases hbx with
      | rw _ _ _ xs' hk0 ho hF hk hl hr => exact .rw _ _ _ xs' hk0 ho hF hk hl hr
  · obtain ⟨_, B1, _, m1, _⟩ := hb t Bx k1
    obtain ⟨_, B2, _, m2, _⟩ := hb t' Bx' k2
    exact hi.dist t t' B1 B2 g m1 m2

/-! ### A row becomes data -/
def frzP (t : Nat) (es : List (List D)) (p : PS) : PS := ⟨fun i => frz t es (p.t i), fun i => if i = t then none else (p.b i).map (frzBox t es)⟩
theorem le_frz {p : PS} (t : Nat) {e k : Nat} {es : List (List D)} (hb0 : p.b t = some (.rw e k es)) : Le p (frzP t es p) := by
  intro n w0 F0 a w ⟨h1, h2, ρ, F, hi, hev⟩
  have hb' : ∀ i, (frzP t es p).b i = if i = t then none else (p.b i).map (frzBox t es) := fun i => rfl
  have hbt := (hi.box t _ hb0)
  refine ⟨h1, h2, ρ, fun g => F g ∨ blk (ρ t) = some g, ⟨hi.ext, fun g hg => .inl (hi.f0 g hg), ?_, ?_, fun t' B h => ?_, fun t1 t2 B1 B2 g k1 k2 hne => ?_⟩, fun i => (hev i).frz hi hb0 hb'⟩
  · rintro g (hg | hg)
    · exact hi.flt g hg
    · exact (hbt.lt hg).1
  · rintro g (hg | hg)
    · exact hi.fnew g hg
    · exact .inr (hbt.lt hg).2.1
  · rw [hb'] at h
    split at h
    · cases h
    · rename_i ht
      rw [Option.map_eq_some_iff] at h
      obtain ⟨B0, hB0, rfl⟩ := h
      have hnF : ∀ g, blk (ρ t') = some g → ¬ (F g ∨ blk (ρ t) = some g) := by
        rintro g hg (h | h)
        · exact ((hi.box t' B0 hB0).lt hg).2.2 h
        · exact hi.dist t' t B0 _ g hB0 hb0 ht hg h
      cases hi.box t' B0 hB0 with
      | st ty cs g xs hρ hg hF hh hl h1 hr =>
        refine .st ty _ g xs hρ hg (hnF g (by rw [hρ]; rfl)) hh (by rw [frzs_len]; exact hl) h1 (fun j x c k1 k2 => ?_)
        obtain ⟨d, h4, rfl⟩ := frzs_get t es cs j c k2
        exact (hr j x d k1 h4).frz hi hb0 hb'
      | rw e' k' es' xs hk0 ho hF hk hl hr => exact .rw e' k' es' xs hk0 ho hnF hk hl (fun j x d k1 k2 => (hr j x d k1 k2).mono (fun g h => .inl h) (fun _ _ => rfl))
  · rw [hb'] at k1 k2
    split at k1
    · cases k1
    · split at k2
      · cases k2
      · rw [Option.map_eq_some_iff] at k1 k2
        obtain ⟨B1', k1, _⟩ := k1
        obtain ⟨B2', k2, _⟩ := k2
        exact hi.dist t1 t2 B1' B2' g k1 k2 hne
def frzSB (t : Nat) (c : SD) : SBox → SBox
  | .st ty cs => .st ty (frzVs t c cs)
  | b => b
theorem lkB_frz (t : Nat) (c : SD) : ∀ (l : List (Nat × Option SBox)) (i : Nat), lkB (frzBx t c l) i = (lkB l i).map (frzSB t c)
  | [], _ => rfl
  | (j, none) :: l, i => by simp only [frzBx, lkB_cons, lkB_frz t c l i]; split <;> rfl
  | (j, some (.st ty cs)) :: l, i => by simp only [frzBx, lkB_cons, lkB_frz t c l i]; split <;> rfl
  | (j, some (.rw e k ty xs pins)) :: l, i => by simp only [frzBx, lkB_cons, lkB_frz t c l i]; split <;> rfl
theorem lkV_frz (t : Nat) (c : SD) : ∀ (l : List (Nat × SV)) (i : Nat), lkV (frzSl t c l) i = frzV t c (lkV l i)
  | [], _ => rfl
  | (j, v) :: l, i => by simp only [frzSl, lkV_cons, lkV_frz t c l i]; split <;> rfl
theorem frzVs_get (t : Nat) (c : SD) : ∀ (cs : List SV) (j : Nat), (frzVs t c cs)[j]? = (cs[j]?).map (frzV t c)
  | [], j => by simp [frzVs]
  | v :: cs, 0 => by simp [frzVs]
  | v :: cs, j + 1 => by simpa [frzVs] using frzVs_get t c cs j
theorem frzVs_len (t : Nat) (c : SD) : ∀ cs : List SV, (frzVs t c cs).length = cs.length
  | [] => rfl
  | v :: cs => by simp [frzVs, frzVs_len t c cs]
theorem frzs_get' (t : Nat) (es : List (List D)) (cs : List PV) (j : Nat) (r : PV) (h : (frzs t es cs)[j]? = some r) : ∃ q, cs[j]? = some q ∧ r = frz t es q := frzs_get t es cs j r h
theorem VSim.frz {B B' : List (Nat × Option SBox)} {t e k : Nat} {ty : Ty} {xs : List ty.den} {pins : List (Nat × Pin)} (ht : lkB B t = some (.rw e k ty xs pins)) (hB : BLeX t B B') {v : SV} {q : PV} (h : VSim B v q) : VSim B' (frzV t (.sl ty xs) v) (Go.Proofs.Ytcphpbhngnnpmaa.frz t (xs.map (encE ty)) q) := by
  induction h with
  | junk q => exact .junk _
  | d c y h => exact .d c y h
  | ag cs qs hl hr ih =>
    refine .ag _ _ (by rw [frzVs_len, frzs_len]; exact hl) (fun j c r h1 h2 => ?_)
    rw [frzVs_get, Option.map_eq_some_iff] at h1
    obtain ⟨c', h3, rfl⟩ := h1
    obtain ⟨q', h4, rfl⟩ := frzs_get _ _ qs j r h2
    exact ih j c' q' h3 h4
  | tup cs qs hl hr ih =>
    refine .tup _ _ (by rw [frzVs_len, frzs_len]; exact hl) (fun j c r h1 h2 => ?_)
    rw [frzVs_get, Option.map_eq_some_iff] at h1
    obtain ⟨c', h3, rfl⟩ := h1
    obtain ⟨q', h4, rfl⟩ := frzs_get _ _ qs j r h2
    exact ih j c' q' h3 h4
  | ptr t' o ty2 cs hb => obtain ⟨ty', cs', h1⟩ := hB.st t' ty2 cs hb; exact .ptr t' o ty' cs' h1
  | row t' n e2 k2 ty2 xs2 pins2 hb hn =>
    simp only [frzV, Go.Proofs.Ytcphpbhngnnpmaa.frz, beq_spec]
    by_cases h : t' = t
    · subst h
      rw [ht] at hb
      injection hb with hb
      injection hb with e1 e2 e3 e4 e5
      subst e3
      have e4 := eq_of_heq e4
      subst e4
      simp only [decide_true, if_true, List.length_map, hn]
      exact v_sl ty xs
    · simp only [h, decide_false, if_false]
      exact .row t' n e2 k2 ty2 xs2 pins2 (hB.rw t' h _ _ _ _ _ hb) hn
  | re t' p o n i e2 k2 ty2 xs2 pins2 pin hb hn hp hi =>
    simp only [frzV, Go.Proofs.Ytcphpbhngnnpmaa.frz, beq_spec]
    by_cases h : t' = t
    · simp only [h, decide_true]; exact .junk _
    · simp only [h, decide_false, if_false]
      exact .re t' p o n i e2 k2 ty2 xs2 pins2 pin (hB.rw t' h _ _ _ _ _ hb) hn hp hi
  | fe cs ds h hn => exact .fe cs ds h hn
mutual
theorem frz_safe {pr : List Nat} {t : Nat} {c : SD} (ht : memN pr t = false) : ∀ v : SV, safeK pr v = true → frzV t c v = v
  | .junk, _ => rfl
  | .d _, _ => rfl
  | .fe _, _ => rfl
  | .ptr _ _, _ => rfl
  | .row t', h => by
    have := not_of_mem ht (show memN pr t' = true from h)
    simp only [frzV, beq_spec, this, decide_false]
  | .re _ _ _, h => by cases h
  | .ag cs, h => by simp only [frzV]; rw [frzs_safe ht cs h]
  | .tup cs, h => by simp only [frzV]; rw [frzs_safe ht cs h]
theorem frzs_safe {pr : List Nat} {t : Nat} {c : SD} (ht : memN pr t = false) : ∀ cs : List SV, safesK pr cs = true → frzVs t c cs = cs
  | [], _ => rfl
  | v :: cs, h => by
    simp only [safesK, Bool.and_eq_true] at h
    simp only [frzVs]
    rw [frz_safe ht v h.1, frzs_safe ht cs h.2]
end
mutual
theorem frz_norow {t : Nat} {c : SD} : ∀ v : SV, norow v = true → frzV t c v = v
  | .junk, _ => rfl
  | .d _, _ => rfl
  | .fe _, _ => rfl
  | .ptr _ _, _ => rfl
  | .row _, h => by cases h
  | .re _ _ _, h => by cases h
  | .ag cs, h => by simp only [frzV]; rw [frzs_norow cs h]
  | .tup cs, h => by simp only [frzV]; rw [frzs_norow cs h]
theorem frzs_norow {t : Nat} {c : SD} : ∀ cs : List SV, norows cs = true → frzVs t c cs = cs
  | [], _ => rfl
  | v :: cs, h => by
    simp only [norows] at h
    split at h
    · rename_i h1
      simp only [frzVs]
      rw [frz_norow v h1, frzs_norow cs h]
    · cases h
end
theorem frzX_ok {sc : List Nat} {s s' : SS} {p : PS} {t : Nat} (hpr : PrOk s) (hs : SimW s p) (h : frzX t s = some s') : ∃ p', Le p p' ∧ SimW s' p' ∧ ∀ W, Keep sc W s s' := by
  unfold frzX at h
  split at h
  · rename_i e k ty xs pins hb
    split at h
    · rename_i ht
      injection h with h
      subst h
      have hpb : p.b t = some (.rw e k (xs.map (encE ty))) := (hs.bx t _ hb).1
      have hX : BLeX t s.bx ((t, none) :: frzBx t (.sl ty xs) s.bx) := by
        refine ⟨fun t' ht' e2 k2 ty2 xs2 pins2 h => ?_, fun t' ty2 cs2 h => ?_⟩
        · rw [lkB_cons, if_neg ht', lkB_frz, h]; rfl
        · have : ¬ t' = t := fun e => by rw [e, hb] at h; cases h
          rw [lkB_cons, if_neg this, lkB_frz, h]
          exact ⟨_, _, rfl⟩
      refine ⟨_, le_frz t hpb, ⟨fun i => ?_, fun t' b h => ?_⟩, fun W => ⟨rfl, rfl, fun t' ht' => ?_, fun i _ hsf => ?_, fun t' _ ty2 cs2 h => ?_⟩⟩
      · show VSim _ (lkV (frzSl t (.sl ty xs) s.sl) i) (frz t (xs.map (encE ty)) (p.t i))
        rw [lkV_frz]
        exact (hs.sl i).frz hb hX
      · have h : lkB ((t, none) :: frzBx t (.sl ty xs) s.bx) t' = some b := h
        rw [lkB_cons] at h
        split at h
        · cases h
        · rename_i hne
          rw [lkB_frz, Option.map_eq_some_iff] at h
          obtain ⟨b0, h1, rfl⟩ := h
          have h2 := hs.bx t' b0 h1
          show BSim _ true (some (frzSB t (.sl ty xs) b0)) (if t' = t then none else (p.b t').map (frzBox t (xs.map (encE ty))))
          rw [if_neg hne]
          cases b0 with
          | st ty2 cs =>
            obtain ⟨qs, h3, h4⟩ := h2
            rw [h3]
            refine ⟨_, rfl, by rw [frzVs_len, frzs_len]; exact h4.len, fun j c r k1 k2 => ?_⟩
            rw [frzVs_get, Option.map_eq_some_iff] at k1
            obtain ⟨c', k3, rfl⟩ := k1
            obtain ⟨q', k4, rfl⟩ := frzs_get _ _ qs j r k2
            exact (h4.rep j c' q' k3 k4).frz hb hX
          | rw e2 k2 ty2 xs2 pins2 =>
            obtain ⟨h3, h4⟩ := h2
            rw [h3]
            exact ⟨rfl, h4⟩
      · show SameB _ (lkB ((t, none) :: frzBx t (.sl ty xs) s.bx) t')
        rw [lkB_cons, if_neg (fun e => by rw [e, ht] at ht'; cases ht'), lkB_frz]
        obtain ⟨b', h1, h2⟩ := hpr t' ht'
        rw [h1]
        cases b' with
        | st ty2 cs => simp only [Option.map_some, frzSB]; rw [frzs_norow cs h2]; rfl
        | rw e2 k2 ty2 xs2 pins2 => exact ⟨pins2, rfl⟩
      · show lkV (frzSl t (.sl ty xs) s.sl) i = _
        rw [lkV_frz]
        exact frz_safe ht _ hsf
      · show ∃ cs', lkB ((t, none) :: frzBx t (.sl ty xs) s.bx) t' = _ ∧ _
        rw [lkB_cons, if_neg (fun e => by rw [e, hb] at h; cases h), lkB_frz, h]
        exact ⟨_, rfl, frzVs_len _ _ cs2⟩
    · injection h with h
      subst h
      exact ⟨p, .refl p, hs, fun W => .refl W s⟩
  · injection h with h
    subst h
    exact ⟨p, .refl p, hs, fun W => .refl W s⟩
theorem frzX_sim {sc : List Nat} {s s' : SS} {p : PS} {t : Nat} (hpr : PrOk s) (hs : Sim s p) (h : frzX t s = some s') : ∃ p', Le p p' ∧ Sim s' p' ∧ (∀ W, Keep sc W s s') ∧ s'.oc = s.oc := by
  unfold frzX at h
  split at h
  · rename_i e k ty xs pins hb
    split at h
    · rename_i ht
      have h0 : frzX t s = some s' := by unfold frzX; rw [hb]; simp only; rw [ht]; exact h
      injection h with h
      have hpb : p.b t = some (.rw e k (xs.map (encE ty))) := by have := hs.bx t; rw [hb] at this; exact this.1
      obtain ⟨p2, k1, k2, k3⟩ := frzX_ok (sc := sc) hpr hs.w h0
      have hX : BLeX t s.bx ((t, none) :: frzBx t (.sl ty xs) s.bx) := by
        refine ⟨fun t' ht' e2 k2 ty2 xs2 pins2 h => ?_, fun t' ty2 cs2 h => ?_⟩
        · rw [lkB_cons, if_neg ht', lkB_frz, h]; rfl
        · have : ¬ t' = t := fun e => by rw [e, hb] at h; cases h
          rw [lkB_cons, if_neg this, lkB_frz, h]
          exact ⟨_, _, rfl⟩
      subst h
      refine ⟨_, le_frz t hpb, ⟨fun i => ?_, fun t' => ?_⟩, k3, rfl⟩
      · show VSim _ (lkV (frzSl t (.sl ty xs) s.sl) i) (frz t (xs.map (encE ty)) (p.t i))
        rw [lkV_frz]
        exact (hs.sl i).frz hb hX
      · show BSim _ (memN s.oc t') (lkB ((t, none) :: frzBx t (.sl ty xs) s.bx) t') (if t' = t then none else (p.b t').map (frzBox t (xs.map (encE ty))))
        rw [lkB_cons]
        by_cases hne : t' = t
        · rw [if_pos hne, if_pos hne]; exact fun _ => rfl
        · rw [if_neg hne, if_neg hne, lkB_frz]
          have h2 := hs.bx t'
          cases hl : lkB s.bx t' with
          | none => rw [hl] at h2; exact fun ho => by rw [h2 ho]; rfl
          | some b0 =>
            rw [hl] at h2
            cases b0 with
            | st ty2 cs =>
              obtain ⟨qs, h3, h4⟩ := h2
              rw [h3]
              refine ⟨_, rfl, by rw [frzVs_len, frzs_len]; exact h4.len, fun j c r k1 k2 => ?_⟩
              rw [frzVs_get, Option.map_eq_some_iff] at k1
              obtain ⟨c', k3, rfl⟩ := k1
              obtain ⟨q', k4, rfl⟩ := frzs_get _ _ qs j r k2
              exact (h4.rep j c' q' k3 k4).frz hb hX
            | rw e2 k2 ty2 xs2 pins2 =>
              obtain ⟨h3, h4⟩ := h2
              rw [h3]
              exact ⟨rfl, h4⟩
    · injection h with h
      subst h
      exact ⟨p, .refl p, hs, fun W => .refl W s, rfl⟩
  · injection h with h
    subst h
    exact ⟨p, .refl p, hs, fun W => .refl W s, rfl⟩
theorem frzAll_sim {sc : List Nat} : ∀ {l : List Nat} {s s' : SS} {p : PS}, PrOk s → Sim s p → frzAll l s = some s' → ∃ p', Le p p' ∧ Sim s' p' ∧ (∀ W, Keep sc W s s') ∧ s'.oc = s.oc
  | [], s, s', p, _, hs, h => by injection h with h; subst h; exact ⟨p, .refl p, hs, fun W => .refl W s, rfl⟩
  | t :: l, s, s', p, hpr, hs, h => by
    simp only [frzAll] at h
    split at h
    · rename_i s1 h1
      obtain ⟨p1, k1, k2, k3, k4⟩ := frzX_sim (sc := sc) hpr hs h1
      obtain ⟨p2, m1, m2, m3, m4⟩ := frzAll_sim (sc := sc) ((k3 []).prOk hpr) k2 h
      exact ⟨p2, k1.trans m1, m2, fun W => (k3 W).trans (m3 W), m4.trans k4⟩
    · cases h
theorem frzAll_ok {sc : List Nat} : ∀ {l : List Nat} {s s' : SS} {p : PS}, PrOk s → SimW s p → frzAll l s = some s' → ∃ p', Le p p' ∧ SimW s' p' ∧ ∀ W, Keep sc W s s'
  | [], s, s', p, _, hs, h => by injection h with h; subst h; exact ⟨p, .refl p, hs, fun W => .refl W s⟩
  | t :: l, s, s', p, hpr, hs, h => by
    simp only [frzAll] at h
    split at h
    · rename_i s1 h1
      obtain ⟨p1, k1, k2, k3⟩ := frzX_ok hpr hs h1
      obtain ⟨p2, k4, k5, k6⟩ := frzAll_ok ((k3 []).prOk hpr) k2 h
      exact ⟨p2, k1.trans k4, k5, fun W => (k3 W).trans (k6 W)⟩
    · cases h
end Go.Proofs.Ytcphpbhngnnpmaa

/- Drawn regions whose last operations come last in every order: there rows may become data between them. -/
namespace Go.Proofs.Ytcphpbhngnnpmaa
open Go.RowKit

theorem tailB_spec {m : Nat} {ops : Array Oper} (h : tailB m ops = true) {i k : Nat} (hi : i < ops.size) (hm : ¬ i < m) (hk : k < i) : hangs ops 4 i k = true := by
  unfold tailB at h
  rw [List.all_eq_true] at h
  have h := h i (List.mem_range.2 hi)
  simp only [Bool.or_eq_true, decide_eq_true_eq, List.all_eq_true] at h
  exact (h.resolve_left hm) k (List.mem_range.2 hk)
section
variable {P : Program} {w0 : World} {F0 : Nat → Prop} {n : Nat} {ops : Array Oper} {Q : Exit → Act → World → Prop}
def RunT (P : Program) (ops : Array Oper) : List Nat → PS → (PS → Prop) → Prop
  | [], s, K => K s
  | i :: l, s, K => ∃ s1, Le s s1 ∧ ∃ o r u, ops[i]? = some o ∧ Eff P ops o s1 r u ∧ RunT P ops l (s1.upd o.dst r u) K
theorem any_okT {c : List (Nat × Option Nat)} {mT : Nat} {Qs : Exit → PS → Prop} (hQ : ∀ e s a w, Qs e s → Conc n w0 F0 s a w → Q e a w) (hB : drawB c n ops = true) (hT : tailB mT ops = true) : ∀ (m : Nat) (l lt : List Nat) (listed : Array Bool) (s : PS) (a : Act) (w : World), (l ++ lt).length = m → (l ++ lt).Pairwise (· < ·) → (∀ j ∈ l, j < mT) → (∀ j ∈ lt, ¬ j < mT) → (∀ j, j ∈ l ++ lt ↔ (j < ops.size ∧ listed.getD j true = false)) → listed.size = ops.size → Closed ops listed → (l ≠ [] → ClsOk c s) →
    RunI P ops l s (fun s' => RunT P ops lt s' (Qs .normal)) → Conc n w0 F0 s a w → wpAny P .any ops Q m listed a w
  | 0, l, lt, listed, s, a, w, hl, _, _, _, hm, hls, _, _, h, hc => by
    have h0 : l ++ lt = [] := List.eq_nil_of_length_eq_zero hl
    obtain ⟨rfl, rfl⟩ := List.append_eq_nil_iff.1 h0
    refine ⟨?_, hQ _ s a w h hc⟩
    rw [List.eq_nil_iff_forall_not_mem]
    intro j hj
    obtain ⟨h1, o, h2, _⟩ := mem_ready.1 hj
    have := (hm j).2 ⟨(Array.getElem?_eq_some_iff.1 h2).1, h1⟩
    simp at this
  | m + 1, l, lt, listed, s, a, w, hl, hs, hlm, hltm, hm, hls, hcl, hcls, h, hc => by
    have notdone : ∀ {k : Nat}, k ∈ l ++ lt → listed.getD k false = false := fun {k} hk => by
      have h1 := (hm k).1 hk
      have hsz : k < listed.size := by rw [hls]; exact h1.1
      have h2 := h1.2
      simp [hsz] at h2 ⊢
      exact h2
    refine ⟨fun h0 => ?_, fun i hi => ?_⟩
    · exfalso
      cases hll : l ++ lt with
      | nil => rw [hll] at hl; simp at hl
      | cons k ls =>
        have hk := (hm k).1 (by rw [hll]; simp)
        have hok : ops[k]? = some ops[k] := Array.getElem?_eq_getElem hk.1
        have : k ∈ Region.ready .any ops listed := by
          refine mem_ready.2 ⟨hk.2, _, hok, fun e he hb => ?_⟩
          have hlt := (drawB_spec hB hok).2.1 e he hb
          cases hx : listed.getD e.on false with
          | true => rfl
          | false =>
            exfalso
            have hsz : e.on < listed.size := by rw [hls]; omega
            have h2 : listed.getD e.on true = false := by
              simp [hsz] at hx ⊢; exact hx
            have h3 := (hm e.on).2 ⟨by omega, h2⟩
            rw [hll] at h3 hs
            rcases List.mem_cons.1 h3 with h | h
            · omega
            · have := (List.pairwise_cons.1 hs).1 _ h
              omega
        rw [h0] at this
        cases this
    · obtain ⟨hun, oi, hoi, hall⟩ := mem_ready.1 hi
      have hisz := (Array.getElem?_eq_some_iff.1 hoi).1
      have hin : i ∈ l ++ lt := (hm i).2 ⟨hisz, hun⟩
      have hready : ∀ k, k ∈ l ++ lt → hangs ops 4 i k = true → False := fun k hk hh => by
        have h1 := hangs_done hcl 4 i k hh (fun o' ho' e he hb => by rw [hoi] at ho'; cases ho'; exact hall e he hb)
        rw [notdone hk] at h1
        cases h1
      -- one step, and what is left
      have key : ∃ l' lt' s1 r u, Le s s1 ∧ Eff P ops oi s1 r u ∧ RunI P ops l' (s1.upd oi.dst r u) (fun s' => RunT P ops lt' s' (Qs .normal)) ∧ (l' ++ lt').length = m ∧ (l' ++ lt').Pairwise (· < ·) ∧ (∀ j ∈ l', j < mT) ∧ (∀ j ∈ lt', ¬ j < mT) ∧ (∀ j, j ∈ l' ++ lt' ↔ (j ∈ l ++ lt ∧ j ≠ i)) ∧ (l' ≠ [] → ClsOk c (s1.upd oi.dst r u)) := by
        by_cases him : i < mT
        · have hil : i ∈ l := by
            rcases List.mem_append.1 hin with h | h
            · exact h
            · exact absurd him (hltm i h)
          obtain ⟨l1, l2, rfl⟩ := List.append_of_mem hil
          have hpw0 := List.pairwise_append.1 hs
          have hpw := List.pairwise_append.1 hpw0.1
          have hcls := hcls (by simp)
          have hfront := move_front (P := P) (K := fun s' => RunT P ops lt s' (Qs .normal)) hoi hB l1 l2 s ⟨w0, F0, a, w, hc⟩ hcls (fun k hk ok hok => by
            have hlt : k < i := hpw.2.2 k hk i (by simp)
            rcases (drawB_spec hB hoi).2.2 k ok hlt hok with hh | h
            · exact (hready k (by simp [hk]) hh).elim
            · exact h) h
          obtain ⟨o', r, u, ho', h1, h2⟩ := hfront
          rw [hoi] at ho'
          injection ho' with ho'
          subst ho'
          have hc3 := List.pairwise_cons.1 hpw.2.1
          have hne : ∀ x, x ∈ l1 ++ l2 → x ≠ i := fun x hx e => by
            subst e
            rcases List.mem_append.1 hx with h | h
            · have := hpw.2.2 x h x (by simp); omega
            · have := hc3.1 x h; omega
          refine ⟨l1 ++ l2, lt, s, r, u, .refl s, h1, h2, by simp at hl ⊢; omega, ?_, fun j hj => hlm j (by rcases List.mem_append.1 hj with h | h <;> simp [h]), hltm, fun j => ?_, fun _ => hcls.step (drawB_cls hB hoi) h1⟩
          · refine List.pairwise_append.2 ⟨List.pairwise_append.2 ⟨hpw.1, hc3.2, fun x hx y hy => hpw.2.2 x hx y (by simp [hy])⟩, hpw0.2.1, fun x hx y hy => hpw0.2.2 x (by rcases List.mem_append.1 hx with h | h <;> simp [h]) y hy⟩
          · refine ⟨fun hj => ?_, fun ⟨hj, hji⟩ => ?_⟩
            · rcases List.mem_append.1 hj with hj2 | hj2
              · exact ⟨by rcases List.mem_append.1 hj2 with h | h <;> simp [h], hne j hj2⟩
              · exact ⟨by simp [hj2], fun e => by subst e; exact hltm j hj2 him⟩
            · rcases List.mem_append.1 hj with h | h
              · rcases List.mem_append.1 h with h | h
                · simp [h]
                · rcases List.mem_cons.1 h with h | h
                  · exact absurd h hji
                  · simp [h]
              · simp [h]
        · have hnil : l = [] := by
            cases l with
            | nil => rfl
            | cons k l =>
              exfalso
              have hk := hlm k (by simp)
              exact hready k (by simp) (tailB_spec hT hisz him (by omega))
          subst hnil
          cases lt with
          | nil => simp at hin
          | cons k lt =>
            have hki : k = i := by
              rcases List.mem_cons.1 hin with h | h
              · exact h.symm
              · exfalso
                have hlt := (List.pairwise_cons.1 hs).1 i h
                exact hready k (by simp) (tailB_spec hT hisz him hlt)
            subst hki
            obtain ⟨s1, hle, o', r, u, ho', h1, h2⟩ := h
            rw [hoi] at ho'
            injection ho' with ho'
            subst ho'
            have hc3 := List.pairwise_cons.1 hs
            refine ⟨[], lt, s1, r, u, hle, h1, h2, by simp at hl ⊢; omega, hc3.2, fun j hj => (by cases hj), fun j hj => hltm j (by simp [hj]), fun j => ?_, fun h => absurd rfl h⟩
            refine ⟨fun hj => ⟨by simp at hj; simp [hj], fun e => by
              subst e
              have := hc3.1 j (by simpa using hj)
              omega⟩, fun ⟨hj, hji⟩ => ?_⟩
            rcases List.mem_cons.1 hj with h | h
            · exact absurd h hji
            · simpa using h
      obtain ⟨l', lt', s1, r, u, hle, h1, h2, k1, k2, k3, k4, k5, k6⟩ := key
      have hc1 := hle n w0 F0 a w hc
      have hstep := op_ok (f := 0) (Q := Q) (K := wpAny P .any ops Q m (listed.setIfInBounds i true)) hc1 h1 (drawB_spec hB hoi).1 (fun a' w' hc' => by
        have hmono : ∀ j, listed.getD j false = true → (listed.setIfInBounds i true).getD j false = true := fun j hj => by
          by_cases hji : j = i
          · subst hji
            have hsz : j < listed.size := by rw [hls]; exact hisz
            simp [hsz]
          · rw [getD_set_ne false (Ne.symm hji)]; exact hj
        refine any_okT hQ hB hT m l' lt' _ _ a' w' k1 k2 k3 k4 (fun j => ?_) (by simpa using hls) (fun j hj o ho e he hb => ?_) k6 h2 hc'
        · by_cases hji : j = i
          · subst hji
            have hsz : j < listed.size := by rw [hls]; exact hisz
            refine ⟨fun hmem => absurd rfl ((k5 j).1 hmem).2, fun ⟨_, hx⟩ => ?_⟩
            simp [hsz] at hx
          · rw [getD_set_ne true (Ne.symm hji), k5 j, hm j]
            simp [hji]
        · by_cases hji : j = i
          · subst hji
            rw [hoi] at ho
            cases ho
            exact hmono _ (hall e he hb)
          · rw [getD_set_ne false (Ne.symm hji)] at hj
            exact hmono _ (hcl j hj o ho e he hb))
      unfold wpOp
      rw [hoi]
      simp only
      split
      · rename_i hw
        rw [if_pos hw] at hstep
        exact .inl hstep
      · rename_i hw
        rw [if_neg hw] at hstep
        exact hstep
theorem pwp_drawT (c : List (Nat × Option Nat)) {Qs : Exit → PS → Prop} {s : PS} {id : Nat} {l : List Oper} (mT : Nat) (hmT : mT ≤ l.length) (hm : P.follows .mixedOrders = true) (hB : drawB c n l.toArray = true) (hT : tailB mT l.toArray = true) (hcls : ClsOk c s) (h : RunI P l.toArray (List.range' 0 mT) s (fun s' => RunT P l.toArray (List.range' mT (l.length - mT)) s' (Qs .normal))) : PWP P n (.region id l.toArray true) Qs s := by
  intro w0 F0 a w hc
  refine wp_region_any hm ?_
  have hr : List.range' 0 mT ++ List.range' mT (l.length - mT) = List.range' 0 l.length := by
    have := List.range'_append (s := 0) (m := mT) (n := l.length - mT) (step := 1)
    simp only [Nat.one_mul, Nat.zero_add] at this
    rw [this]
    congr 1
    omega
  refine any_okT (Qs := Qs) (mT := mT) (fun _ s' _ _ h1 h2 => ⟨s', h1, h2⟩) hB hT l.toArray.size (List.range' 0 mT) (List.range' mT (l.length - mT)) _ s a _ (by rw [hr]; simp) (by rw [hr]; exact List.pairwise_lt_range') (fun j hj => by simp [List.mem_range'_1] at hj; exact hj) (fun j hj => by simp [List.mem_range'_1] at hj; omega) (fun j => ?_) (by simp) (fun j hj => by exfalso; simp only [Array.getD_eq_getD_getElem?, Array.getElem?_replicate] at hj; split at hj <;> cases hj) (fun _ => hcls) h (hc.drew _)
  rw [hr]
  simp only [List.mem_range'_1, Nat.zero_le, true_and, Nat.zero_add, List.size_toArray]
  refine ⟨fun h => ⟨h, by simp [h]⟩, fun h => h.1⟩
end
end Go.Proofs.Ytcphpbhngnnpmaa

/- The typed executor: regions are the pure machine's. -/
namespace Go.Proofs.Ytcphpbhngnnpmaa
open Go.RowKit

variable {sc : List Nat} {P : Program} {T : List (Nat × Ent)} {ops : Array Oper}
/-- Steps at which something may be forgotten. -/
def LeQ (q : Bool) (p p' : PS) : Prop := match q with | true => Le p p' | false => p' = p
theorem LeQ.refl (q : Bool) (p : PS) : LeQ q p p := by cases q; exact rfl; exact Le.refl p
def RunQ (q : Bool) (P : Program) (ops : Array Oper) : List Oper → PS → (PS → Prop) → Prop
  | [], s, K => K s
  | o :: l, s, K => ∃ s1, LeQ q s s1 ∧ match guardB ops o s1 with
    | some true => match callOf o with
      | some (f, xs) => ∃ r, CallOk P f s1.b (xs.map (ev s1)) r ∧ RunQ q P ops l (s1.upd o.dst r none) K
      | none => match eff P o s1 with
        | some (r, u) => RunQ q P ops l (s1.upd o.dst r u) K
        | none => False
    | some false => RunQ q P ops l (s1.upd o.dst (.tup []) none) K
    | none => False
theorem runQ_false : ∀ {l : List Oper} {p : PS} {K : PS → Prop}, RunQ false P ops l p K → RunP P ops l p K
  | [], p, K, h => h
  | o :: l, p, K, h => by
    obtain ⟨s1, h1, h⟩ := h
    have h1 : s1 = p := h1
    subst h1
    unfold RunP
    split at h
    · rename_i hg
      rw [hg]
      simp only
      split at h
      · rename_i f xs hc
        obtain ⟨r, h2, h3⟩ := h
        simp only [hc]
        exact ⟨r, h2, runQ_false h3⟩
      · rename_i hc
        simp only [hc]
        split at h
        · rename_i r u he; simp only [he]; exact runQ_false h
        · exact h.elim
    · rename_i hg; rw [hg]; exact runQ_false h
    · exact h.elim
theorem listQ_ok {w0 : World} {F0 : Nat → Prop} {n : Nat} {Q : Exit → Act → World → Prop} {Qs : Exit → PS → Prop} (hQ : ∀ e s a w, Qs e s → Conc n w0 F0 s a w → Q e a w) : ∀ (l : List Oper) (s : PS) (a : Act) (w : World), dstsB n l = true → RunQ true P ops l s (Qs .normal) → Conc n w0 F0 s a w → wpList P ops Q l a w
  | [], s, a, w, _, h, hc => hQ _ s a w h hc
  | o :: l, s, a, w, hd, h, hc => by
    obtain ⟨s1, h1, h⟩ := h
    have hc1 := (show Le s s1 from h1) n w0 F0 a w hc
    obtain ⟨hd1, hd2⟩ := dstsB_cons hd
    have step : ∃ r u, Eff P ops o s1 r u ∧ RunQ true P ops l (s1.upd o.dst r u) (Qs .normal) := by
      unfold Eff
      split at h
      · rename_i hg
        rw [hg]
        unfold EffW
        split at h
        · rename_i f xs hcl
          obtain ⟨r, h2, h3⟩ := h
          simp only [hcl]
          exact ⟨r, none, ⟨rfl, h2⟩, h3⟩
        · rename_i hcl
          simp only [hcl]
          split at h
          · rename_i r u he; exact ⟨r, u, he, h⟩
          · exact h.elim
      · rename_i hg; rw [hg]; exact ⟨.tup [], none, ⟨rfl, rfl⟩, h⟩
      · exact h.elim
    obtain ⟨r, u, h2, h3⟩ := step
    exact wpList_step fun K hK => op_ok (f := 0) hc1 h2 hd1 (fun a' w' hc' => hK _ _ (listQ_ok hQ l _ a' w' hd2 h3 hc'))
theorem pwp_regionQ {n : Nat} {Qs : Exit → PS → Prop} {s : PS} {id : Nat} {l : List Oper} (hd : dstsB n l = true) (h : RunQ true P l.toArray l s (Qs .normal)) : PWP P n (.region id l.toArray false) Qs s :=
  fun _ _ a w hc => wp_region_lit (listQ_ok (Qs := Qs) (fun _ s' _ _ h1 h2 => ⟨s', h1, h2⟩) l s a w hd h hc)
theorem runI_take {K : PS → Prop} : ∀ (l : List Oper) (k : Nat) (s : PS), (∀ j, j < l.length → l[j]? = ops[k + j]?) → RunP P ops l s K → RunI P ops (List.range' k l.length) s K
  | [], k, s, _, h => h
  | o :: l, k, s, hl, h => by
    obtain ⟨r, u, h1, h2⟩ := h.step
    have h0 : ops[k]? = some o := by simpa using (hl 0 (by simp)).symm
    rw [List.length_cons, List.range'_succ]
    exact ⟨o, r, u, h0, h1, runI_take l (k + 1) _ (fun j hj => by have := hl (j + 1) (by simp; omega); simpa [Nat.add_assoc, Nat.add_comm 1 j] using this) h2⟩
theorem runT_of {K : PS → Prop} : ∀ (l : List Oper) (k : Nat) (s : PS), (∀ j, j < l.length → l[j]? = ops[k + j]?) → RunQ true P ops l s K → RunT P ops (List.range' k l.length) s K
  | [], k, s, _, h => h
  | o :: l, k, s, hl, h => by
    obtain ⟨s1, hle, h⟩ := h
    have h0 : ops[k]? = some o := by simpa using (hl 0 (by simp)).symm
    have step : ∃ r u, Eff P ops o s1 r u ∧ RunQ true P ops l (s1.upd o.dst r u) K := by
      unfold Eff
      split at h
      · rename_i hg
        rw [hg]
        unfold EffW
        split at h
        · rename_i f xs hcl
          obtain ⟨r, h2, h3⟩ := h
          simp only [hcl]
          exact ⟨r, none, ⟨rfl, h2⟩, h3⟩
        · rename_i hcl
          simp only [hcl]
          split at h
          · rename_i r u he; exact ⟨r, u, he, h⟩
          · exact h.elim
      · rename_i hg; rw [hg]; exact ⟨.tup [], none, ⟨rfl, rfl⟩, h⟩
      · exact h.elim
    obtain ⟨r, u, h1, h2⟩ := step
    rw [List.length_cons, List.range'_succ]
    exact ⟨s1, hle, o, r, u, h0, h1, runT_of l (k + 1) _ (fun j hj => by have := hl (j + 1) (by simp; omega); simpa [Nat.add_assoc, Nat.add_comm 1 j] using this) h2⟩
theorem runP_mono {q : Bool} : ∀ {l : List Oper} {p : PS} {K K' : PS → Prop}, RunQ q P ops l p K → (∀ p', K p' → K' p') → RunQ q P ops l p K'
  | [], p, K, K', h, hk => hk p h
  | o :: l, p, K, K', h, hk => by
    obtain ⟨s1, h1, h⟩ := h
    refine ⟨s1, h1, ?_⟩
    split at h
    · split at h
      · obtain ⟨r, h1, h2⟩ := h
        exact ⟨r, h1, runP_mono h2 hk⟩
      · split at h
        · exact runP_mono h hk
        · exact h
    · exact runP_mono h hk
    · exact h
theorem runP_append {q : Bool} : ∀ {a b : List Oper} {p : PS} {K : PS → Prop}, RunQ q P ops a p (fun p' => RunQ q P ops b p' K) → RunQ q P ops (a ++ b) p K
  | [], b, p, K, h => h
  | o :: a, b, p, K, h => by
    obtain ⟨s1, h1, h⟩ := h
    refine ⟨s1, h1, ?_⟩
    split at h
    · split at h
      · obtain ⟨r, h1, h2⟩ := h
        exact ⟨r, h1, runP_append h2⟩
      · split at h
        · exact runP_append h
        · exact h
    · exact runP_append h
    · exact h
theorem memN_app : ∀ (a b : List Nat) (i : Nat), memN (a ++ b) i = (memN a i || memN b i)
  | [], b, i => rfl
  | j :: a, b, i => by
    simp only [List.cons_append, memN, memN_app a b i]
    split <;> simp
theorem memN_cons (j : Nat) (l : List Nat) (i : Nat) : memN (j :: l) i = (decide (i = j) || memN l i) := by
  simp only [memN, beq_spec]
  by_cases h : i = j
  · simp [h]
  · simp [h]
theorem uptoG_spec : ∀ {g : Nat} {l a b : List Oper} {d : Nat}, uptoG g l = some (a, d, b) → l = a ++ b ∧ ∃ o ∈ a, o.dst = some d
  | g, [], a, b, d, h => by cases h
  | g, o :: l, a, b, d, h => by
    simp only [uptoG] at h
    split at h
    · rename_i d' hd
      injection h with h
      injection h with h1 h2
      injection h2 with h2 h3
      subst h1 h2 h3
      refine ⟨rfl, o, List.mem_cons_self, ?_⟩
      split at hd
      · rename_i g' d2 e1 e2 hdst
        split at hd
        · injection hd with hd; subst hd; exact hdst
        · cases hd
      · cases hd
    · split at h
      · rename_i a' d' b' h'
        injection h with h
        injection h with h1 h2
        injection h2 with h2 h3
        subst h1 h2 h3
        obtain ⟨h4, o', h5, h6⟩ := uptoG_spec h'
        exact ⟨by rw [h4]; rfl, o', List.mem_cons_of_mem _ h5, h6⟩
      · cases h
theorem dstsOf_mem : ∀ {l : List Oper} {o : Oper} {d : Nat}, o ∈ l → o.dst = some d → memN (dstsOf l) d = true
  | [], o, d, h, _ => by cases h
  | x :: l, o, d, h, hd => by
    rcases List.mem_cons.1 h with rfl | h
    · simp only [dstsOf, hd, memN_cons, decide_true, Bool.true_or]
    · have := dstsOf_mem h hd
      simp only [dstsOf]
      split
      · simp [memN_cons, this]
      · exact this
theorem dstsOf_of : ∀ {l : List Oper} {d : Nat}, memN (dstsOf l) d = true → ∃ o ∈ l, o.dst = some d
  | [], d, h => by cases h
  | x :: l, d, h => by
    simp only [dstsOf] at h
    split at h
    · rename_i d' hd'
      rw [memN_cons, Bool.or_eq_true] at h
      rcases h with h | h
      · have := of_decide_eq_true h
        subst this
        exact ⟨x, List.mem_cons_self, hd'⟩
      · obtain ⟨o, h1, h2⟩ := dstsOf_of h
        exact ⟨o, List.mem_cons_of_mem _ h1, h2⟩
    · obtain ⟨o, h1, h2⟩ := dstsOf_of h
      exact ⟨o, List.mem_cons_of_mem _ h1, h2⟩
theorem dstsOf_app : ∀ (a b : List Oper), dstsOf (a ++ b) = dstsOf a ++ dstsOf b
  | [], b => rfl
  | o :: a, b => by
    simp only [List.cons_append, dstsOf, dstsOf_app a b]
    split <;> rfl
theorem lkV_junkAll : ∀ (ds : List Nat) (l : List (Nat × SV)) (i : Nat), lkV (junkAll ds l) i = if memN ds i = true then .junk else lkV l i
  | [], l, i => by simp [junkAll, memN]
  | d :: ds, l, i => by
    simp only [junkAll, lkV_cons, lkV_junkAll ds l i, memN_cons]
    by_cases h : i = d
    · simp [h]
    · simp [h]

/-- What a row of operations leaves of the pure machine's state. -/
structure Fr (l : List Oper) (s : SS) (p p' : PS) : Prop where
  t : s.ro = true → ∀ i, memN (dstsOf l) i = false → p'.t i = p.t i
  b : s.ro = true → ∀ t, (lkB s.bx t ≠ none ∨ memN (dstsOf l) t = false) → p'.b t = p.b t
theorem upd_ne {s : SS} {dst : Option Nat} {v : SV} {u : Upd} {t : Nat} (h : lkB s.bx t ≠ none) : lkB (s.upd dst v u).bx t ≠ none := by
  cases u with
  | no => exact h
  | grow t' b =>
    show lkB ((t', some b) :: staleB t' s.bx) t ≠ none
    rw [lkB_cons]
    split
    · simp
    · rw [lkB_stale]; simpa using h
  | _ =>
    rename_i t' b
    show lkB ((t', some b) :: s.bx) t ≠ none
    rw [lkB_cons]
    split
    · simp
    · exact h
theorem upd_ro {s : SS} {dst : Option Nat} {v : SV} {u : Upd} : (s.upd dst v u).ro = s.ro := by cases u <;> rfl
theorem fr_step {o : Oper} {l : List Oper} {s : SS} {p p' : PS} {v : SV} {u : Upd} {q : PV} {w : Option (Nat × Box)} (hw : OkW s o.dst w) (h : Fr l (s.upd o.dst v u) (p.upd o.dst q w) p') : Fr (o :: l) s p p' := by
  have sub : ∀ i, memN (dstsOf (o :: l)) i = false → memN (dstsOf l) i = false ∧ o.dst ≠ some i := fun i hi => by
    simp only [dstsOf] at hi
    split at hi
    · rename_i d hd
      rw [memN_cons, Bool.or_eq_false_iff] at hi
      refine ⟨hi.2, fun e => ?_⟩
      rw [hd] at e
      injection e with e
      have := of_decide_eq_false hi.1
      exact this e.symm
    · rename_i hd
      exact ⟨hi, fun e => by rw [hd] at e; cases e⟩
  refine ⟨fun hro i hi => ?_, fun hro t ht => ?_⟩
  · obtain ⟨h1, h2⟩ := sub i hi
    rw [h.t (by rw [upd_ro]; exact hro) i h1]
    simp only [PS.upd, tupd, if_neg h2]
  · have hb : (p.upd o.dst q w).b t = p.b t := by
      show bupd p.b w t = p.b t
      unfold bupd
      split
      · rename_i j Bx
        rcases hw j Bx rfl with ⟨h1, h2⟩ | h1
        · split
          · rename_i e
            subst e
            rcases ht with ht | ht
            · exact absurd h1 ht
            · exact absurd h2 (sub t ht).2
          · rfl
        · rw [hro] at h1; cases h1
      · rfl
    rw [h.b (by rw [upd_ro]; exact hro) t (ht.imp upd_ne fun ht => (sub t ht).1), hb]
/-- What a region comes to. -/
def Post (sc W : List Nat) (l : List Oper) (s : SS) (p : PS) {ρ : Type} (k : SS → Option ρ) (res : ρ) (p' : PS) : Prop := ∃ s', Sim s' p' ∧ Keep sc W s s' ∧ PrOk s' ∧ k s' = some res ∧ Fr l s p p'
theorem post_step {W : List Nat} {o : Oper} {l : List Oper} {s : SS} {p p' : PS} {ρ : Type} {k : SS → Option ρ} {res : ρ} {v : SV} {u : Upd} {q : PV} {w : Option (Nat × Box)} (hW : ∀ d, o.dst = some d → memN W d = true) (hpr : PrOk s) (hu : OkU s u) (hw : OkW s o.dst w)
    (h : Post sc W l (s.upd o.dst v u) (p.upd o.dst q w) k res p') : Post sc W (o :: l) s p k res p' := by
  obtain ⟨s', h1, h2, h3, h4, h5⟩ := h
  exact ⟨s', h1, (keep_upd hu hW hpr).trans h2, h3, h4, fr_step hw h5⟩
theorem preF_ok {q : Bool} {o : Oper} {s s' : SS} {p : PS} (hpr : PrOk s) (hs : Sim s p) (h : preF q T o s = some s') : ∃ p', LeQ q p p' ∧ Sim s' p' ∧ (∀ W, Keep sc W s s') ∧ (s.ro = true → s' = s ∧ p' = p) ∧ (o.guard = none ∨ p' = p) := by
  have triv : s' = s → ∃ p', LeQ q p p' ∧ Sim s' p' ∧ (∀ W, Keep sc W s s') ∧ (s.ro = true → s' = s ∧ p' = p) ∧ (o.guard = none ∨ p' = p) := fun e => by
    subst e; exact ⟨p, .refl _ _, hs, fun W => .refl W s', fun _ => ⟨rfl, rfl⟩, .inr rfl⟩
  unfold preF at h
  split at h
  · rename_i hro hg
    have froz : ∀ {l : List Nat}, frzAll l s = some s' → ∃ p', LeQ true p p' ∧ Sim s' p' ∧ (∀ W, Keep sc W s s') ∧ (s.ro = true → s' = s ∧ p' = p) ∧ (o.guard = none ∨ p' = p) := fun h => by
      obtain ⟨p', k1, k2, k3, k4⟩ := frzAll_sim (sc := sc) hpr hs h
      exact ⟨p', k1, k2, k3, fun h => (by rw [hro] at h; cases h), .inl hg⟩
    split at h
    · exact froz h
    · split at h
      · split at h
        · injection h with h; exact triv h.symm
        · exact froz h
      · injection h with h; exact triv h.symm
    · injection h with h; exact triv h.symm
  · injection h with h; exact triv h.symm
theorem post_frz {W : List Nat} {l : List Oper} {s s1 : SS} {p p1 p' : PS} {ρ : Type} {k : SS → Option ρ} {res : ρ} (hk : Keep sc W s s1) (hro : s.ro = true → s1 = s ∧ p1 = p) (h : Post sc W l s1 p1 k res p') : Post sc W l s p k res p' := by
  obtain ⟨s', h1, h2, h3, h4, h5⟩ := h
  refine ⟨s', h1, hk.trans h2, h3, h4, fun hr => ?_, fun hr => ?_⟩
  · obtain ⟨e1, e2⟩ := hro hr
    subst e1 e2
    exact h5.t hr
  · obtain ⟨e1, e2⟩ := hro hr
    subst e1 e2
    exact h5.b hr
theorem runX_ok {q : Bool} (hT : TabOk P T) {W : List Nat} : ∀ (n : Nat) (kn : List Nat) (l : List Oper) {ρ : Type} {s : SS} {p : PS} {k : SS → Option ρ} {res : ρ}, (∀ o ∈ l, ∀ d, o.dst = some d → memN W d = true) → (∀ (j : Nat) (o : Oper), ops[j]? = some o → ∀ d, o.dst = some d → memN W d = true) →
    (∀ o ∈ l, ∀ t x y, o.op = .store t x y → o.dst = none) → PrOk s → Sim s p → runX q P T ops n kn l s k = some res → RunQ q P ops l p (Post sc W l s p k res) := by
  intro n
  induction n with
  | zero =>
    intro kn l ρ s p k res hW hO hst hpr hs h
    cases l with
    | nil => exact ⟨s, hs, .refl _ _, hpr, h, fun _ _ _ => rfl, fun _ _ _ => rfl⟩
    | cons o l => cases h
  | succ n ih =>
    intro kn l ρ s p k res hW hO hst hpr hs h
    cases l with
    | nil => exact ⟨s, hs, .refl _ _, hpr, h, fun _ _ _ => rfl, fun _ _ _ => rfl⟩
    | cons o l =>
      have hWo := hW o List.mem_cons_self
      have hWl : ∀ o ∈ l, ∀ d, o.dst = some d → memN W d = true := fun o ho => hW o (List.mem_cons_of_mem _ ho)
      have hstl : ∀ o ∈ l, ∀ t x y, o.op = .store t x y → o.dst = none := fun o ho => hst o (List.mem_cons_of_mem _ ho)
      have goOk : guardB ops o p = some true → (match preF q T o s with
          | none => none
          | some s => (match callOf o with
            | some (f, xs) => callX T f s (evsX s xs) fun r => runX q P T ops n kn l (s.upd o.dst r .no) k
            | none => effX P o s fun v u => runX q P T ops n kn l (s.upd o.dst v u) k)) = some res → RunQ q P ops (o :: l) p (Post sc W (o :: l) s p k res) := by
        intro hg h
        split at h
        · cases h
        · rename_i s1 hfz
          obtain ⟨p1, hle, hs1, hk1, hro, hgn⟩ := preF_ok (sc := sc) hpr hs hfz
          have hg1 : guardB ops o p1 = some true := by
            rcases hgn with hgn | hgn
            · simp [guardB, hgn]
            · rw [hgn]; exact hg
          have hpr1 : PrOk s1 := (hk1 []).prOk hpr
          refine ⟨p1, hle, ?_⟩
          rw [hg1]
          split at h
          · rename_i f xs hc
            obtain ⟨v, r, h1, h2, h3⟩ := callX_ok hT hs1 h
            simp only [hc]
            refine ⟨r, h1, ?_⟩
            have hs' : Sim (s1.upd o.dst v .no) (p1.upd o.dst r none) := sim_no hs1 h3
            exact runP_mono (ih kn l hWl hO hstl ((keep_upd (sc := sc) (u := .no) trivial hWo hpr1).prOk hpr1) hs' h2) fun p' hp => post_frz (hk1 W) hro (post_step (u := .no) hWo hpr1 trivial okW_none hp)
          · rename_i hc
            obtain ⟨v, u, qv, w, h1, h2, h3, h4, h5⟩ := effX_ok hs1 (hst o List.mem_cons_self) h
            simp only [hc, h1]
            exact runP_mono (ih kn l hWl hO hstl ((keep_upd (sc := sc) h4 hWo hpr1).prOk hpr1) h3 h2) fun p' hp => post_frz (hk1 W) hro (post_step hWo hpr1 h4 h5 hp)
      have skipOk : guardB ops o p = some false → runX q P T ops n kn l (s.upd o.dst (.tup []) .no) k = some res → RunQ q P ops (o :: l) p (Post sc W (o :: l) s p k res) := by
        intro hg h
        refine ⟨p, .refl _ _, ?_⟩
        rw [hg]
        have hs' : Sim (s.upd o.dst (.tup []) .no) (p.upd o.dst (.tup []) none) := sim_no hs (.tup [] [] rfl (fun j c q h => by simp at h))
        exact runP_mono (ih kn l hWl hO hstl ((keep_upd (sc := sc) (u := .no) trivial hWo hpr).prOk hpr) hs' h) fun p' hp => post_step (u := .no) hWo hpr trivial okW_none hp
      unfold runX at h
      simp only at h
      split at h
      · rename_i hg
        exact goOk (by simp [guardB, hg]) h
      · rename_i j want hg
        split at h
        · cases h
        · rename_i g hgd
          have hsg := hs.sl g
          split at h
          · rename_i hv
            rw [hv] at hsg
            obtain ⟨qs, h1, h2⟩ := vs_tup hsg
            have : qs = [] := by have := h2.len; simpa using this.symm
            subst this
            exact skipOk (by simp [guardB, hg, hgd, h1]) h
          · rename_i b hv
            rw [hv] at hsg
            have hpg := vs_bool hsg
            have hgb : guardB ops o p = some (b == want) := by simp [guardB, hg, hgd, hpg, asB]
            split at h
            · split at h
              · split at h
                · exact goOk (by rw [hgb]; rfl) h
                · exact skipOk (by rw [hgb]; rfl) h
              · split at h
                · exact skipOk (by rw [hgb]; rfl) h
                · exact goOk (by rw [hgb]; rfl) h
            · split at h
              · cases h
              · rename_i l1 d l2 hup
                obtain ⟨h1, o1, h2, h3⟩ := uptoG_spec hup
                obtain ⟨qb, h4, h5⟩ := bindS h
                have hg0 : ∃ o', ops[j]? = some o' ∧ o'.dst = some g := by
                  cases ho : ops[j]? with
                  | none => simp [ho] at hgd
                  | some o' => exact ⟨o', rfl, by simpa [ho] using hgd⟩
                obtain ⟨o', ho', hdo'⟩ := hg0
                have hWg : memN W g = true := hO j o' ho' g hdo'
                rw [h1]
                have hW1 : ∀ o ∈ l1, ∀ d, o.dst = some d → memN W d = true := fun o ho => hW o (by rw [h1]; exact List.mem_append_left _ ho)
                have hW2 : ∀ o ∈ l2, ∀ d, o.dst = some d → memN W d = true := fun o ho => hW o (by rw [h1]; exact List.mem_append_right _ ho)
                have hst1 : ∀ o ∈ l1, ∀ t x y, o.op = .store t x y → o.dst = none := fun o ho => hst o (by rw [h1]; exact List.mem_append_left _ ho)
                have hst2 : ∀ o ∈ l2, ∀ t x y, o.op = .store t x y → o.dst = none := fun o ho => hst o (by rw [h1]; exact List.mem_append_right _ ho)
                have hsb : Sim ⟨(g, .d (.bool b)) :: s.sl, s.bx, s.pr, true, s.oc⟩ p := by
                  refine ⟨fun i => ?_, hs.bx⟩
                  show VSim s.bx (lkV ((g, .d (.bool b)) :: s.sl) i) (p.t i)
                  rw [lkV_cons]
                  split
                  · rename_i e; subst e; exact hsg
                  · exact hs.sl i
                have hA : RunQ q P ops l1 p (Post sc W l1 ⟨(g, .d (.bool b)) :: s.sl, s.bx, s.pr, true, s.oc⟩ p (truthOf d) qb) := by
                  cases b
                  · exact ih (g :: kn) l1 hW1 hO hst1 hpr hsb (by simpa using h4)
                  · exact ih (g :: kn) l1 hW1 hO hst1 hpr hsb (by simpa using h4)
                refine runP_append (runP_mono hA fun p1 hp1 => ?_)
                obtain ⟨s1, k1, k2, k3, k4, k5⟩ := hp1
                have hd : memN (dstsOf l1) d = true := dstsOf_mem h2 h3
                have hpd : p1.t d = .d (.v (.bool qb)) := by
                  have := k1.sl d
                  unfold truthOf at k4
                  split at k4
                  · rename_i b' hb'
                    injection k4 with k4
                    subst k4
                    rw [hb'] at this
                    exact vs_bool this
                  · cases k4
                have hs2 : Sim ⟨(d, .d (.bool qb)) :: junkAll (dstsOf l1) s.sl, s.bx, s.pr, s.ro, dstsOf l1 ++ s.oc⟩ p1 := by
                  refine ⟨fun i => ?_, fun t => ?_⟩
                  · show VSim s.bx (lkV ((d, .d (.bool qb)) :: junkAll (dstsOf l1) s.sl) i) (p1.t i)
                    rw [lkV_cons]
                    split
                    · rename_i e; subst e; rw [hpd]; exact v_bool qb
                    · rw [lkV_junkAll]
                      split
                      · exact .junk _
                      · rename_i hi
                        rw [k5.t rfl i (by simpa using hi)]
                        exact hs.sl i
                  · show BSim s.bx (memN (dstsOf l1 ++ s.oc) t) (lkB s.bx t) (p1.b t)
                    have hbt := hs.bx t
                    cases hl : lkB s.bx t with
                    | none =>
                      rw [hl] at hbt
                      intro hoc
                      rw [memN_app, Bool.or_eq_false_iff] at hoc
                      rw [k5.b rfl t (.inr hoc.1)]
                      exact hbt hoc.2
                    | some bx =>
                      rw [hl] at hbt
                      rw [k5.b rfl t (.inl (by show lkB s.bx t ≠ none; rw [hl]; simp))]
                      cases bx <;> exact hbt
                have hk2 : Keep sc W s ⟨(d, .d (.bool qb)) :: junkAll (dstsOf l1) s.sl, s.bx, s.pr, s.ro, dstsOf l1 ++ s.oc⟩ := by
                  refine ⟨rfl, rfl, fun _ _ => .refl _, fun i hi _ => ?_, fun _ _ _ cs h => ⟨cs, h, rfl⟩⟩
                  show lkV ((d, .d (.bool qb)) :: junkAll (dstsOf l1) s.sl) i = _
                  rw [lkV_cons, if_neg (fun e => by rw [e, hW1 o1 h2 d h3] at hi; cases hi), lkV_junkAll]
                  rw [if_neg (fun e => by
                    obtain ⟨o2, m1, m2⟩ := dstsOf_of e
                    rw [hW1 o2 m1 i m2] at hi
                    cases hi)]
                refine runP_mono (ih kn l2 hW2 hO hst2 (hk2.prOk hpr) hs2 h5) fun p2 hp2 => ?_
                obtain ⟨s3, m1, m2, m3, m4, m5⟩ := hp2
                refine ⟨s3, m1, hk2.trans m2, m3, m4, fun hro i hi => ?_, fun hro t ht => ?_⟩
                · rw [dstsOf_app, memN_app, Bool.or_eq_false_iff] at hi
                  rw [m5.t hro i hi.2, k5.t rfl i hi.1]
                · rw [dstsOf_app, memN_app, Bool.or_eq_false_iff] at ht
                  rw [m5.b hro t (ht.imp id fun h => h.2), k5.b rfl t (ht.imp id fun h => h.1)]
          · cases h
end Go.Proofs.Ytcphpbhngnnpmaa

/- The typed executor: nil that becomes a row. -/
namespace Go.Proofs.Ytcphpbhngnnpmaa
open Go.RowKit

theorem le_nilrow {p : PS} (i e k : Nat) (ht : p.t i = .d (.v (.slice none 0 0))) (hb : p.b i = none) (hk : 0 < k) : Le p (p.upd (some i) (.row i 0) (some (i, .rw e k []))) := by
  intro n w0 F0 a w ⟨h1, h2, ρ, F, hi, hev⟩
  have hx := (hev i)
  rw [ht] at hx
  obtain ⟨hx, _⟩ := hx.vv
  have hnew := newRw (P := default) (t := i) (e := e) (k := k) (es := []) (xs := []) (v := .slice none 0 0) (w' := w) hi hb hk (Ext.refl w) (fun g hg => by cases hg) (World.ownsRow_nil w _ e k) (by simp) rfl (by simp)
  obtain ⟨v, w', ρ', hok, k1, k2, k3⟩ := hnew
  injection hok with e1 e2
  subst e1 e2
  refine ⟨h1, h2, ρ', F, k1, fun j => ?_⟩
  by_cases hj : i = j
  · subst hj
    rw [hx]
    simpa [PS.upd, tupd] using k3
  · have : (p.upd (some i) (.row i 0) (some (i, .rw e k []))).t j = p.t j := by simp [PS.upd, tupd, hj]
    rw [this]
    exact (hev j).mono k2
theorem le_nilcell {p : PS} (i t j e k : Nat) {ty : TypeId} {cs : List PV} (hb : p.b t = some (.st ty cs)) (hc : cs[j]? = some (.d (.v (.slice none 0 0)))) (hi : p.b i = none) (hk : 0 < k) :
    Le p ⟨p.t, bupd (bupd p.b (some (i, .rw e k []))) (some (t, .st ty (cs.set j (.row i 0))))⟩ := by
  intro n w0 F0 a w ⟨h1, h2, ρ, F, hinv, hev⟩
  have hnew := newRw (P := default) (t := i) (e := e) (k := k) (es := []) (xs := []) (v := .slice none 0 0) (w' := w) hinv hi hk (Ext.refl w) (fun g hg => by cases hg) (World.ownsRow_nil w _ e k) (by simp) rfl (by simp)
  obtain ⟨v, w', ρ', hok, k1, k2, k3⟩ := hnew
  injection hok with e1 e2
  subst e1 e2
  have hti : t ≠ i := fun e => by rw [e, hi] at hb; cases hb
  have hb1 : (bupd p.b (some (i, .rw e k []))) t = some (.st ty cs) := by rw [bupd_ne _ _ hti]; exact hb
  have hs2 : Stp ρ' (bupd p.b (some (i, .rw e k []))) w F ρ' (bupd (bupd p.b (some (i, .rw e k []))) (some (t, .st ty (cs.set j (.row i 0))))) w F := by
    refine ⟨fun _ h => h, fun _ _ => rfl, fun t' ty' cs' h => ⟨?_, rfl⟩, fun t' e' k' es h => ?_⟩
    · by_cases h' : t' = t
      · subst h'; rw [bupd_same]; exact ⟨_, _, rfl⟩
      · rw [bupd_ne _ _ h']; exact ⟨_, _, h⟩
    · have h' : t' ≠ t := fun e => by rw [e, hb1] at h; cases h
      rw [bupd_ne _ _ h']
      exact ⟨e', es, h, Nat.le_refl _, fun _ => rfl⟩
  have hinv2 : Inv w0 F0 ρ' (bupd (bupd p.b (some (i, .rw e k []))) (some (t, .st ty (cs.set j (.row i 0))))) w F := by
    have hs3 := hs2
    rw [← rupd_self ρ' t] at hs3
    have := Inv.turn (v := ρ' t) (B' := .st ty (cs.set j (.row i 0))) (w' := w) k1 hb1 (by rw [rupd_self] at hs3 ⊢; exact hs2) k1.ext (Nat.le_refl _) (fun _ _ _ => rfl) (fun g hg => .inl hg) ?_
    · rw [rupd_self] at this; exact this
    · rw [rupd_self]
      cases k1.box t _ hb1 with
      | st _ _ g xs hρ hg hF hh hl h1x hr =>
        refine .st ty _ g xs hρ hg hF hh (by rw [List.length_set]; exact hl) h1x (fun p x c h4 h5 => ?_)
        rw [List.getElem?_set] at h5
        split at h5
        · rename_i hjp
          subst hjp
          split at h5
          · injection h5 with h5
            subst h5
            have hx := hr j x _ h4 hc
            obtain ⟨hx, _⟩ := hx.vv
            rw [hx]
            exact k3.mono hs2
          · cases h5
        · exact (hr p x c h4 h5).mono hs2
  exact ⟨h1, h2, ρ', F, hinv2, fun q => ((hev q).mono k2).mono hs2⟩
theorem BLe.trans {B B' B'' : List (Nat × Option SBox)} (h : BLe B B') (h' : BLe B' B'') : BLe B B'' := by
  refine ⟨fun t e k ty xs pins h1 => ?_, fun t ty cs h1 => ?_⟩
  · obtain ⟨e1, k1, ty1, xs1, pins1, h2, h3, h4⟩ := h.rw t e k ty xs pins h1
    obtain ⟨e2, k2, ty2, xs2, pins2, h5, h6, h7⟩ := h'.rw t e1 k1 ty1 xs1 pins1 h2
    refine ⟨e2, k2, ty2, xs2, pins2, h5, h6.trans h3, fun p pin hp => ?_⟩
    obtain ⟨pin1, h8, h9⟩ := h4 p pin hp
    obtain ⟨pin2, h10, h11⟩ := h7 p pin1 h8
    exact ⟨pin2, h10, h11.trans h9⟩
  · obtain ⟨ty1, cs1, h2⟩ := h.st t ty cs h1
    exact h'.st t ty1 cs1 h2
/-- A box's cells may be laid once more. -/
theorem lk_same {B : List (Nat × Option SBox)} {b : Nat} {x : Option SBox} (h : lkB B b = x) (t : Nat) : lkB ((b, x) :: B) t = lkB B t := by
  rw [lkB_cons]
  split
  · rename_i e; subst e; exact h.symm
  · rfl
theorem VSim.lk {B B' : List (Nat × Option SBox)} (h : ∀ t, lkB B' t = lkB B t) {v : SV} {q : PV} (hv : VSim B v q) : VSim B' v q :=
  hv.mono ⟨fun t e k ty xs pins h1 => ⟨e, k, ty, xs, pins, by rw [h]; exact h1, rfl, fun _ pin hp => ⟨pin, hp, rfl⟩⟩, fun t ty cs h1 => ⟨ty, cs, by rw [h]; exact h1⟩⟩
theorem BSim.lk {B B' : List (Nat × Option SBox)} (h : ∀ t, lkB B' t = lkB B t) {o : Bool} {b : Option SBox} {q : Option Box} (hv : BSim B o b q) : BSim B' o b q :=
  hv.mono ⟨fun t e k ty xs pins h1 => ⟨e, k, ty, xs, pins, by rw [h]; exact h1, rfl, fun _ pin hp => ⟨pin, hp, rfl⟩⟩, fun t ty cs h1 => ⟨ty, cs, by rw [h]; exact h1⟩⟩
theorem Sim.lk {sl : List (Nat × SV)} {B B' : List (Nat × Option SBox)} {pr oc : List Nat} {ro : Bool} {p : PS} (h : ∀ t, lkB B' t = lkB B t) (hs : Sim ⟨sl, B, pr, ro, oc⟩ p) : Sim ⟨sl, B', pr, ro, oc⟩ p :=
  ⟨fun i => (hs.sl i).lk h, fun t => by show BSim B' _ (lkB B' t) _; rw [h]; exact (hs.bx t).lk h⟩
theorem nilCells_ok {s : SS} {b : Nat} {ty : TypeId} : ∀ {rows : List (Nat × Nat × Nat × Nat × Ty)} {cs cs' : List SV} {bx bx' : List (Nat × Option SBox)} {p : PS}, (∃ x, lkB bx b = some x) → Sim ⟨s.sl, (b, some (.st ty cs)) :: bx, s.pr, s.ro, []⟩ p → nilCells s rows cs bx = some (cs', bx') →
    ∃ p', Le p p' ∧ Sim ⟨s.sl, (b, some (.st ty cs')) :: bx', s.pr, s.ro, []⟩ p' ∧ (∀ t, memN s.pr t = true → lkB bx' t = lkB bx t) ∧ cs'.length = cs.length ∧ ∀ t x, lkB bx t = some x → lkB bx' t = some x
  | [], cs, cs', bx, bx', p, _, hs, h => by
    injection h with h
    injection h with e1 e2
    subst e1 e2
    exact ⟨p, .refl p, hs, fun _ _ => rfl, rfl, fun _ _ h => h⟩
  | (j, R, e, k, t) :: l, cs, cs', bx, bx', p, hb, hs, h => by
    simp only [nilCells] at h
    split at h
    · rename_i hj
      split at h
      · rename_i hR hk hp
        have hk := of_decide_eq_true hk
        obtain ⟨xb, hxb⟩ := hb
        have hRb : ¬ R = b := fun e => by rw [e, hxb] at hR; cases hR
        have hbx := hs.bx b
        have hbx : BSim ((b, some (.st ty cs)) :: bx) (memN [] b) (lkB ((b, some (.st ty cs)) :: bx) b) (p.b b) := hbx
        rw [lkB_cons, if_pos rfl] at hbx
        obtain ⟨qs, h1, h2⟩ := hbx
        have hRn : lkB ((b, some (.st ty cs)) :: bx) R = none := by rw [lkB_cons, if_neg hRb]; exact hR
        have hpR : p.b R = none := by
          have h3 := hs.bx R
          have h3 : BSim ((b, some (.st ty cs)) :: bx) (memN [] R) (lkB ((b, some (.st ty cs)) :: bx) R) (p.b R) := h3
          rw [hRn] at h3
          exact h3 rfl
        have hlt : j < qs.length := by rw [← h2.len]; exact (List.getElem?_eq_some_iff.1 hj).1
        have hqj : qs[j]? = some (.d (.v (.slice none 0 0))) := by
          have h3 : qs[j]? = some qs[j] := by simp [hlt]
          rw [h3, vs_nl (h2.rep j _ _ hj h3)]
        have hle := le_nilcell R b j e k h1 hqj hpR hk
        have hB1 : BLe ((b, some (.st ty cs)) :: bx) ((R, some (.rw e k t [] [])) :: (b, some (.st ty cs)) :: bx) := ble_new hRn
        have hB2 : BLe ((R, some (.rw e k t [] [])) :: (b, some (.st ty cs)) :: bx) ((b, some (.st ty (cs.set j (.row R)))) :: (R, some (.rw e k t [] [])) :: (b, some (.st ty cs)) :: bx) := ble_st (ty := ty) (cs := cs) (by rw [lkB_cons, if_neg (fun e => hRb e.symm), lkB_cons, if_pos rfl])
        have hB := hB1.trans hB2
        have hsame : ∀ t', lkB ((b, some (.st ty (cs.set j (.row R)))) :: (R, some (.rw e k t [] [])) :: bx) t' = lkB ((b, some (.st ty (cs.set j (.row R)))) :: (R, some (.rw e k t [] [])) :: (b, some (.st ty cs)) :: bx) t' := fun t' => by
          simp only [lkB_cons]
          split
          · rfl
          · rename_i h'; split
            · rfl
            · rfl
        have hs1 : Sim ⟨s.sl, (b, some (.st ty (cs.set j (.row R)))) :: (R, some (.rw e k t [] [])) :: (b, some (.st ty cs)) :: bx, s.pr, s.ro, []⟩ ⟨p.t, bupd (bupd p.b (some (R, .rw e k []))) (some (b, .st ty (qs.set j (.row R 0))))⟩ := by
          refine ⟨fun i => (hs.sl i).mono hB, fun t' => ?_⟩
          show BSim _ (memN [] t') (lkB ((b, some (.st ty (cs.set j (.row R)))) :: (R, some (.rw e k t [] [])) :: (b, some (.st ty cs)) :: bx) t') (bupd (bupd p.b (some (R, .rw e k []))) (some (b, .st ty (qs.set j (.row R 0)))) t')
          rw [lkB_cons]
          by_cases e1 : t' = b
          · subst e1
            rw [if_pos rfl, bupd_same]
            refine ⟨_, rfl, by simpa using h2.len, fun j' c q m1 m2 => ?_⟩
            rw [List.getElem?_set] at m1 m2
            by_cases e2 : j = j'
            · subst e2
              have hlc : j < cs.length := by rw [h2.len]; exact hlt
              rw [if_pos rfl, if_pos hlc] at m1
              rw [if_pos rfl, if_pos hlt] at m2
              injection m1 with m1
              injection m2 with m2
              subst m1 m2
              exact .row R 0 e k t [] [] (by rw [lkB_cons, if_neg hRb, lkB_cons, if_pos rfl]) rfl
            · rw [if_neg e2] at m1 m2
              exact (h2.rep j' c q m1 m2).mono hB
          · rw [if_neg e1, bupd_ne _ _ e1, lkB_cons]
            by_cases e2 : t' = R
            · subst e2
              rw [if_pos rfl, bupd_same]
              exact ⟨rfl, fun p pin hp => by cases hp⟩
            · rw [if_neg e2, bupd_ne _ _ e2]
              exact (hs.bx t').mono hB
        have hs2 := hs1.lk hsame
        obtain ⟨p', k1, k2, k3, k4, k5⟩ := nilCells_ok (s := s) (b := b) (ty := ty) ⟨xb, by rw [lkB_cons, if_neg (fun e => hRb e.symm)]; exact hxb⟩ hs2 h
        refine ⟨p', hle.trans k1, k2, fun t' ht' => ?_, by rw [k4, List.length_set], fun t' x hx => k5 t' x ?_⟩
        · rw [k3 t' ht', lkB_cons, if_neg (fun e => by rw [e, hp] at ht'; cases ht')]
        · rw [lkB_cons, if_neg (fun e => by rw [e, hR] at hx; cases hx)]; exact hx
      · cases h
    · exact nilCells_ok hb hs h
theorem nilM_ok {sc wr : List Nat} : ∀ {ms : List Mod} {s s' : SS} {p : PS}, s.oc = [] → PrOk s → Sim s p → nilM wr ms s = some s' → ∃ p', Le p p' ∧ Sim s' p' ∧ Keep sc wr s s' ∧ s'.oc = []
  | [], s, s', p, ho, _, hs, h => by injection h with h; subst h; exact ⟨p, .refl p, hs, .refl _ _, ho⟩
  | .leaf _ _ :: l, s, s', p, ho, hpr, hs, h => nilM_ok (ms := l) ho hpr hs h
  | .agg _ _ :: l, s, s', p, ho, hpr, hs, h => nilM_ok (ms := l) ho hpr hs h
  | .box _ _ _ [] :: l, s, s', p, ho, hpr, hs, h => nilM_ok (ms := l) ho hpr hs h
  | .box b _ _ (r :: rows) :: l, s, s', p, ho, hpr, hs, h => by
    simp only [nilM] at h
    split at h
    · rename_i ty cs hb
      split at h
      · rename_i cs' bx' hp hn
        have hs0 : Sim ⟨s.sl, (b, some (.st ty cs)) :: s.bx, s.pr, s.ro, []⟩ p := by
          have : Sim ⟨s.sl, s.bx, s.pr, s.ro, []⟩ p := by rw [← ho]; exact hs
          exact this.lk (lk_same hb)
        obtain ⟨p1, k1, k2, k3, k4, k5⟩ := nilCells_ok ⟨_, hb⟩ hs0 hn
        have hk : Keep sc wr s ⟨s.sl, (b, some (.st ty cs')) :: bx', s.pr, s.ro, s.oc⟩ := by
          refine ⟨rfl, rfl, fun t ht => ?_, fun _ _ _ => rfl, fun t _ ty2 cs2 h2 => ?_⟩
          · show SameB _ (lkB ((b, some (.st ty cs')) :: bx') t)
            rw [lkB_cons, if_neg (fun e => by rw [e, hp] at ht; cases ht), k3 t ht]
            exact .refl _
          · show ∃ cs3, lkB ((b, some (.st ty cs')) :: bx') t = _ ∧ _
            rw [lkB_cons]
            by_cases e : t = b
            · rw [e, hb] at h2
              injection h2 with h2
              injection h2 with e1 e2
              subst e1 e2
              rw [if_pos e]
              exact ⟨_, rfl, k4⟩
            · rw [if_neg e]
              exact ⟨cs2, k5 t _ h2, rfl⟩
        obtain ⟨p2, m1, m2, m3, m4⟩ := nilM_ok (ms := l) (s := ⟨s.sl, (b, some (.st ty cs')) :: bx', s.pr, s.ro, s.oc⟩) ho (hk.prOk hpr) (by rw [ho]; exact k2) h
        exact ⟨p2, k1.trans m1, m2, hk.trans m3, m4⟩
      · cases h
    · cases h
  | .row i R e k t :: l, s, s', p, ho, hpr, hs, h => by
    simp only [nilM] at h
    split at h
    · rename_i hv
      split at h
      · rename_i hR hb hk hw hp
        have hk := of_decide_eq_true hk
        have hsi := hs.sl i
        rw [hv] at hsi
        have hpt := vs_nl hsi
        have hpb : p.b i = none := by
          have := hs.bx i
          rw [hb] at this
          exact this (by rw [ho]; rfl)
        have hle := le_nilrow (p := p) i e k hpt hpb hk
        have hs1 : Sim ⟨updS s.sl (some i) (.row i), (i, some (.rw e k t [] [])) :: s.bx, s.pr, s.ro, s.oc⟩ (p.upd (some i) (.row i 0) (some (i, .rw e k (([] : List t.den).map (encE t))))) :=
          sim_box hs (ble_new hb) (fun _ => ⟨rfl, fun p pin hp => by cases hp⟩) (.row i 0 e k t [] [] (by rw [lkB_cons, if_pos rfl]) rfl)
        have hkp : Keep sc wr s ⟨(i, .row i) :: s.sl, (i, some (.rw e k t [] [])) :: s.bx, s.pr, s.ro, s.oc⟩ := by
          refine ⟨rfl, rfl, fun t' ht' => ?_, fun j hj _ => ?_, fun t' _ ty2 cs2 h2 => ⟨cs2, by show lkB ((i, some (.rw e k t [] [])) :: s.bx) t' = _; rw [lkB_cons, if_neg (fun e => by rw [e, hb] at h2; cases h2)]; exact h2, rfl⟩⟩
          · show SameB _ (lkB ((i, some (.rw e k t [] [])) :: s.bx) t')
            rw [lkB_cons, if_neg (fun e => by rw [e, hp] at ht'; cases ht')]
            exact .refl _
          · show lkV ((i, .row i) :: s.sl) j = _
            rw [lkV_cons, if_neg (fun e => by rw [e, hw] at hj; cases hj)]
        obtain ⟨p2, m1, m2, m3, m4⟩ := nilM_ok (ms := l) (s := ⟨(i, .row i) :: s.sl, (i, some (.rw e k t [] [])) :: s.bx, s.pr, s.ro, s.oc⟩) ho (hkp.prOk hpr) hs1 h
        exact ⟨p2, hle.trans m1, m2, hkp.trans m3, m4⟩
      · cases h
    · exact nilM_ok (ms := l) ho hpr hs h
end Go.Proofs.Ytcphpbhngnnpmaa

/- The typed executor: what is kept where ways meet. -/
namespace Go.Proofs.Ytcphpbhngnnpmaa
open Go.RowKit

/-! ### Lists -/
theorem keepSl_spec (wr pr kb : List Nat) : ∀ (l : List (Nat × SV)) (seen : List Nat) (i : Nat), lkV (keepSl wr pr kb l seen) i = if memN seen i = true then .junk else if memN wr i = true then .junk else if safe pr kb (lkV l i) = true then lkV l i else .junk
  | [], seen, i => by simp [keepSl, lkV, safe]
  | (j, v) :: l, seen, i => by
    simp only [keepSl]
    have hc := lkV_cons j v l i
    split
    · rename_i hs
      rw [keepSl_spec wr pr kb l seen i, hc]
      by_cases e : i = j
      · subst e; simp [hs]
      · simp [e]
    · rename_i hs
      split
      · rename_i hw
        rw [keepSl_spec wr pr kb l (j :: seen) i, hc, memN_cons]
        by_cases e : i = j
        · subst e; simp [hw]
        · simp [e]
      · rename_i hw
        split
        · rename_i hf
          rw [lkV_cons, keepSl_spec wr pr kb l (j :: seen) i, hc, memN_cons]
          by_cases e : i = j
          · subst e; simp [hs, hw, hf]
          · simp [e]
        · rename_i hf
          rw [keepSl_spec wr pr kb l (j :: seen) i, hc, memN_cons]
          by_cases e : i = j
          · subst e; simp [hf]
          · simp [e]
theorem keepBx_spec (pr : List Nat) : ∀ (l : List (Nat × Option SBox)) (seen : List Nat) (t : Nat), lkB (keepBx pr l seen) t = if memN seen t = true then none else if memN pr t = true then unpinB (lkB l t) else none
  | [], seen, t => by simp [keepBx, lkB, unpinB]
  | (j, b) :: l, seen, t => by
    simp only [keepBx]
    have hc := lkB_cons j b l t
    split
    · rename_i hs
      rw [keepBx_spec pr l seen t, hc]
      by_cases e : t = j
      · subst e; simp [hs]
      · simp [e]
    · rename_i hs
      split
      · rename_i hw
        rw [lkB_cons, keepBx_spec pr l (j :: seen) t, hc, memN_cons]
        by_cases e : t = j
        · subst e; simp [hs, hw]
        · simp [e]
      · rename_i hw
        rw [keepBx_spec pr l (j :: seen) t, hc, memN_cons]
        by_cases e : t = j
        · subst e; simp [hw]
        · simp [e]
theorem prBoxes_spec (mb : List Nat) : ∀ (l : List (Nat × Option SBox)) (seen : List Nat) (t : Nat), memN (prBoxes mb l seen) t = true ↔ memN seen t = false ∧ memN mb t = false ∧ ∃ b, lkB l t = some b ∧ plainBox b = true
  | [], seen, t => by simp [prBoxes, memN, lkB]
  | (j, b) :: l, seen, t => by
    have hc := lkB_cons j b l t
    simp only [prBoxes]
    split
    · rename_i hs
      rw [prBoxes_spec mb l seen t, hc]
      by_cases e : t = j
      · subst e; simp [hs]
      · simp [e]
    · rename_i hs
      split
      · rw [prBoxes_spec mb l (j :: seen) t, hc, memN_cons]
        by_cases e : t = j
        · subst e; simp
        · simp [e]
      · rename_i b'
        split
        · rename_i h1 h2
          rw [memN_cons, Bool.or_eq_true, prBoxes_spec mb l (j :: seen) t, hc, memN_cons]
          by_cases e : t = j
          · subst e; simp [hs, h1, h2]
          · simp [e]
        · rename_i h12
          rw [prBoxes_spec mb l (j :: seen) t, hc, memN_cons]
          by_cases e : t = j
          · subst e
            simp only [decide_true, Bool.true_or, Bool.true_eq_false, false_and, if_true, Option.some.injEq, exists_eq_left', false_iff, not_and]
            intro _ h3 h4
            exact h12 h3 h4
          · simp [e]
theorem scBx_spec (bx : List (Nat × Option SBox)) : ∀ (l : List Nat) (r : List (Nat × Option SBox)) (t : Nat), (memN l t = true → ∀ ty cs, lkB bx t = some (.st ty cs) → lkB (scBx bx l r) t = some (.st ty (junks cs))) ∧ ((memN l t = false ∨ ∀ ty cs, lkB bx t ≠ some (.st ty cs)) → lkB (scBx bx l r) t = lkB r t)
  | [], r, t => ⟨fun h => (by cases h), fun _ => rfl⟩
  | b :: l, r, t => by
    obtain ⟨h1, h2⟩ := scBx_spec bx l r t
    simp only [scBx]
    split
    · rename_i ty cs hb
      refine ⟨fun hm ty2 cs2 h => ?_, fun h => ?_⟩
      · rw [lkB_cons]
        by_cases e : t = b
        · subst e
          rw [hb] at h
          injection h with h
          injection h with e1 e2
          subst e1 e2
          rw [if_pos rfl]
        · rw [if_neg e]
          rw [memN_cons] at hm
          exact h1 (by simpa [e] using hm) ty2 cs2 h
      · rw [lkB_cons]
        by_cases e : t = b
        · subst e
          rcases h with h | h
          · rw [memN_cons] at h; simp at h
          · exact absurd hb (h ty cs)
        · rw [if_neg e]
          rw [memN_cons] at h
          exact h2 (h.imp (by simp [e]) id)
    · rename_i hb
      refine ⟨fun hm ty2 cs2 h => ?_, fun h => ?_⟩
      · by_cases e : t = b
        · subst e; exact absurd h (hb ty2 cs2)
        · rw [memN_cons] at hm
          exact h1 (by simpa [e] using hm) ty2 cs2 h
      · rw [memN_cons] at h
        by_cases e : t = b
        · subst e; exact h2 (.inr fun ty cs => hb ty cs)
        · exact h2 (h.imp (by simp [e]) id)
theorem scLive_spec (bx : List (Nat × Option SBox)) : ∀ (l : List Nat) (t : Nat), memN (scLive bx l) t = true ↔ memN l t = true ∧ ∃ ty cs, lkB bx t = some (.st ty cs)
  | [], t => by simp [scLive, memN]
  | b :: l, t => by
    have ih := scLive_spec bx l t
    simp only [scLive]
    split
    · rename_i ty cs hb
      rw [memN_cons, memN_cons, Bool.or_eq_true, Bool.or_eq_true, ih]
      by_cases e : t = b
      · subst e; simp [hb]
      · simp [e]
    · rename_i hb
      rw [ih, memN_cons, Bool.or_eq_true]
      by_cases e : t = b
      · subst e
        refine ⟨fun h => ⟨.inl (by simp), h.2⟩, fun h => ?_⟩
        obtain ⟨ty, cs, h⟩ := h.2
        exact absurd h (hb ty cs)
      · simp [e]
theorem junks_len : ∀ cs : List SV, (junks cs).length = cs.length
  | [] => rfl
  | c :: cs => by simp [junks, junks_len cs]
theorem junks_get : ∀ (cs : List SV) (j : Nat) (c : SV), (junks cs)[j]? = some c → c = .junk
  | [], j, c, h => by simp [junks] at h
  | _ :: cs, 0, c, h => by simp [junks] at h; exact h.symm
  | _ :: cs, j + 1, c, h => by simp [junks] at h; exact junks_get cs j c h
theorem keptAll_spec (mb sc : List Nat) : ∀ (l : List (Nat × Option SBox)) (seen : List Nat), keptAll mb sc l seen = true → ∀ t ty cs, memN seen t = false → lkB l t = some (.st ty cs) → memN mb t = true ∨ memN sc t = true ∨ norows cs = true
  | [], seen, _, t, ty, cs, _, h => by cases h
  | (j, b) :: l, seen, hk, t, ty, cs, hs, h => by
    simp only [keptAll] at hk
    rw [lkB_cons] at h
    split at hk
    · rename_i hj
      have e : ¬ t = j := fun e => by rw [e, hj] at hs; cases hs
      rw [if_neg e] at h
      exact keptAll_spec mb sc l seen hk t ty cs hs h
    · split at hk
      · split at hk
        · rename_i hm
          by_cases e : t = j
          · rw [if_pos e] at h
            injection h with h
            injection h with e1 e2
            subst e1 e2 e
            simpa [Bool.or_eq_true] using hm
          · rw [if_neg e] at h
            exact keptAll_spec mb sc l (j :: seen) hk t ty cs (by rw [memN_cons]; simp [e, hs]) h
        · cases hk
      · rename_i hb
        by_cases e : t = j
        · rw [if_pos e] at h
          exact absurd h (hb ty cs)
        · rw [if_neg e] at h
          exact keptAll_spec mb sc l (j :: seen) hk t ty cs (by rw [memN_cons]; simp [e, hs]) h
theorem disjN_spec : ∀ {a b : List Nat}, disjN a b = true → ∀ t, memN a t = true → memN b t = false
  | [], b, _, t, h => by cases h
  | x :: a, b, hd, t, h => by
    simp only [disjN] at hd
    split at hd
    · cases hd
    · rename_i hx
      rw [memN_cons, Bool.or_eq_true] at h
      rcases h with h | h
      · have := of_decide_eq_true h; subst this; exact hx
      · exact disjN_spec hd t h

/-! ### What is safe is kept -/
theorem safes_get {pr kb : List Nat} : ∀ {cs : List SV} (_ : safes pr kb cs = true) {j : Nat} {c : SV}, cs[j]? = some c → safe pr kb c = true
  | [], _, j, c, h => by simp at h
  | d :: cs, h, j, c, hj => by
    simp only [safes] at h
    split at h
    · rename_i h1
      cases j with
      | zero => simp at hj; subst hj; exact h1
      | succ j => simp at hj; exact safes_get h hj
    · cases h
theorem vsim_safe {B B' : List (Nat × Option SBox)} {pr kb : List Nat} (hrw : ∀ t, memN pr t = true → ∀ e k ty xs pins, lkB B t = some (.rw e k ty xs pins) → ∃ e' k' ty' xs' pins', lkB B' t = some (.rw e' k' ty' xs' pins') ∧ xs'.length = xs.length)
    (hst : ∀ t, memN kb t = true → ∀ ty cs, lkB B t = some (.st ty cs) → ∃ ty' cs', lkB B' t = some (.st ty' cs')) {v : SV} {q : PV} (h : VSim B v q) : safe pr kb v = true → VSim B' v q := by
  induction h with
  | junk q => exact fun _ => .junk q
  | d c y h => exact fun _ => .d c y h
  | ag cs qs hl hr ih => exact fun hs => .ag cs qs hl fun j c q h1 h2 => ih j c q h1 h2 (safes_get hs h1)
  | tup cs qs hl hr ih => exact fun hs => .tup cs qs hl fun j c q h1 h2 => ih j c q h1 h2 (safes_get hs h1)
  | ptr t o ty cs hb => exact fun hs => by obtain ⟨ty', cs', h1⟩ := hst t hs ty cs hb; exact .ptr t o ty' cs' h1
  | row t n e k ty xs pins hb hn =>
    intro hs
    obtain ⟨e', k', ty', xs', pins', h1, h2⟩ := hrw t hs e k ty xs pins hb
    exact .row t n e' k' ty' xs' pins' h1 (h2.trans hn)
  | re t p o n i e k ty xs pins pin hb hn hp hi => exact fun hs => by cases hs
  | fe cs ds h hn => exact fun _ => .fe cs ds h hn
mutual
theorem safe_K {pr pr' kb : List Nat} (h : ∀ t, memN pr t = true → memN pr' t = true) : ∀ v : SV, safe pr kb v = true → safeK pr' v = true
  | .junk, _ => rfl
  | .d _, _ => rfl
  | .fe _, _ => rfl
  | .ptr _ _, _ => rfl
  | .row t, hs => h t hs
  | .re _ _ _, hs => by cases hs
  | .ag cs, hs => by simp only [safeK]; exact safes_K h cs hs
  | .tup cs, hs => by simp only [safeK]; exact safes_K h cs hs
theorem safes_K {pr pr' kb : List Nat} (h : ∀ t, memN pr t = true → memN pr' t = true) : ∀ cs : List SV, safes pr kb cs = true → safesK pr' cs = true
  | [], _ => rfl
  | c :: cs, hs => by
    simp only [safes] at hs
    split at hs
    · rename_i h1
      simp only [safesK, Bool.and_eq_true]
      exact ⟨safe_K h c h1, safes_K h cs hs⟩
    · cases hs
end
theorem safesK_get {pr : List Nat} : ∀ {cs : List SV} (_ : safesK pr cs = true) {j : Nat} {c : SV}, cs[j]? = some c → safeK pr c = true
  | [], _, j, c, h => by simp at h
  | d :: cs, h, j, c, hj => by
    simp only [safesK, Bool.and_eq_true] at h
    cases j with
    | zero => simp at hj; subst hj; exact h.1
    | succ j => simp at hj; exact safesK_get h.2 hj
theorem safes_of {pr kb : List Nat} : ∀ {cs : List SV}, (∀ (j : Nat) c, cs[j]? = some c → safe pr kb c = true) → safes pr kb cs = true
  | [], _ => rfl
  | c :: cs, h => by
    simp only [safes]
    rw [h 0 c rfl]
    exact safes_of fun j d hj => h (j + 1) d (by simpa using hj)
theorem safeK_safe {B : List (Nat × Option SBox)} {pr pr' kb : List Nat} (h : ∀ t, memN pr t = true → memN pr' t = true) (hst : ∀ t ty cs, lkB B t = some (.st ty cs) → memN kb t = true) {v : SV} {q : PV} (hv : VSim B v q) : safeK pr v = true → safe pr' kb v = true := by
  induction hv with
  | junk q => exact fun _ => rfl
  | d c y h => exact fun _ => rfl
  | ag cs qs hl hr ih =>
    refine fun hs => safes_of fun j c hj => ?_
    have hlt : j < qs.length := by rw [← hl]; exact (List.getElem?_eq_some_iff.1 hj).1
    exact ih j c qs[j] hj (by simp [hlt]) (safesK_get hs hj)
  | tup cs qs hl hr ih =>
    refine fun hs => safes_of fun j c hj => ?_
    have hlt : j < qs.length := by rw [← hl]; exact (List.getElem?_eq_some_iff.1 hj).1
    exact ih j c qs[j] hj (by simp [hlt]) (safesK_get hs hj)
  | ptr t o ty cs hb => exact fun _ => hst t ty cs hb
  | row t n e k ty xs pins hb hn => exact fun hs => h t hs
  | re t p o n i e k ty xs pins pin hb hn hp hi => exact fun hs => by cases hs
  | fe cs ds h hn => exact fun _ => rfl
end Go.Proofs.Ytcphpbhngnnpmaa

/- The typed executor: what is packed is laid again. -/
namespace Go.Proofs.Ytcphpbhngnnpmaa
open Go.RowKit

theorem vs_d {B : List (Nat × Option SBox)} {c : SD} {q : PV} (h : VSim B (.d c) q) : ∃ y, q = .d y ∧ DSim c y := by
  cases h with
  | d _ y h => exact ⟨y, rfl, h⟩
theorem vs_row {B : List (Nat × Option SBox)} {t : Nat} {q : PV} (h : VSim B (.row t) q) : ∃ n, q = .row t n := by
  cases h with
  | row _ n => exact ⟨n, rfl⟩
def NoPins (bx : List (Nat × Option SBox)) : Prop := ∀ t e k ty xs pins, lkB bx t = some (.rw e k ty xs pins) → pins = []
theorem NoPins.cons_rw {bx : List (Nat × Option SBox)} (h : NoPins bx) {R e k : Nat} {t : Ty} {xs : List t.den} : NoPins ((R, some (.rw e k t xs [])) :: bx) := by
  intro t' e' k' ty' xs' pins' h1
  rw [lkB_cons] at h1
  split at h1
  · injection h1 with h1
    injection h1 with q1 q2 q3 q4 q5
    exact q5.symm
  · exact h t' e' k' ty' xs' pins' h1
theorem NoPins.cons_st {bx : List (Nat × Option SBox)} (h : NoPins bx) {R : Nat} {ty : TypeId} {cs : List SV} : NoPins ((R, some (.st ty cs)) :: bx) := by
  intro t' e' k' ty' xs' pins' h1
  rw [lkB_cons] at h1
  split at h1
  · cases h1
  · exact h t' e' k' ty' xs' pins' h1
/-- Boxes as the pure machine has them. -/
def BxOk (bx : List (Nat × Option SBox)) (p : PS) : Prop := ∀ t b, lkB bx t = some b → BSim bx true (some b) (p.b t)
theorem ble_rowIn {bx : List (Nat × Option SBox)} {p : PS} (hn : NoPins bx) (hb : BxOk bx p) {R e k : Nat} {t : Ty} {xs : List t.den} (hR : p.b R = some (.rw e k (xs.map (encE t)))) : BLe bx ((R, some (.rw e k t xs [])) :: bx) := by
  refine ⟨fun t' e2 k2 ty2 xs2 pins2 h => ?_, fun t' ty2 cs2 h => ?_⟩
  · rw [lkB_cons]
    by_cases e1 : t' = R
    · subst e1
      rw [if_pos rfl]
      have h1 := (hb t' _ h).1
      rw [hR] at h1
      injection h1 with h1
      injection h1 with q1 q2 q3
      refine ⟨e, k, t, xs, [], rfl, by simpa using congrArg List.length q3, fun p pin hp => ?_⟩
      rw [hn _ _ _ _ _ _ h] at hp
      cases hp
    · rw [if_neg e1]; exact ⟨_, _, _, _, _, h, rfl, fun p pin hp => ⟨pin, hp, rfl⟩⟩
  · rw [lkB_cons]
    by_cases e1 : t' = R
    · subst e1
      obtain ⟨qs, h1, _⟩ := hb t' _ h
      rw [hR] at h1
      cases h1
    · rw [if_neg e1]; exact ⟨_, _, h⟩
theorem ble_stIn {bx : List (Nat × Option SBox)} {p : PS} (hb : BxOk bx p) {b : Nat} {ty : TypeId} {cs : List SV} {qs : List PV} (hR : p.b b = some (.st ty qs)) : BLe bx ((b, some (.st ty cs)) :: bx) := by
  refine ⟨fun t' e2 k2 ty2 xs2 pins2 h => ?_, fun t' ty2 cs2 h => ?_⟩
  · rw [lkB_cons]
    by_cases e1 : t' = b
    · subst e1
      have h1 := (hb t' _ h).1
      rw [hR] at h1
      cases h1
    · rw [if_neg e1]; exact ⟨_, _, _, _, _, h, rfl, fun p pin hp => ⟨pin, hp, rfl⟩⟩
  · rw [lkB_cons]
    by_cases e1 : t' = b
    · rw [if_pos e1]; exact ⟨_, _, rfl⟩
    · rw [if_neg e1]; exact ⟨_, _, h⟩
theorem BxOk.cons {bx : List (Nat × Option SBox)} {p : PS} (h : BxOk bx p) {R : Nat} {b : SBox} (hB : BLe bx ((R, some b) :: bx)) (hb : BSim ((R, some b) :: bx) true (some b) (p.b R)) : BxOk ((R, some b) :: bx) p := by
  intro t b' h1
  rw [lkB_cons] at h1
  by_cases e : t = R
  · subst e
    rw [if_pos rfl] at h1
    injection h1 with h1
    subst h1
    exact hb
  · rw [if_neg e] at h1
    exact (h t b' h1).mono hB
theorem len_inj {t : Ty} {xs ys : List t.den} (h : xs.map (encE t) = ys.map (encE t)) : xs.length = ys.length := by
  have h9 := congrArg List.length h
  rw [List.length_map, List.length_map] at h9
  exact h9
theorem sl_inj {t t' : Ty} {xs : List t.den} {ys : List t'.den} {c : SD} (h : c.as (.sl t) = some xs) (hd : c.toD = .sl (ys.map (encE t'))) : xs.map (encE t) = ys.map (encE t') := by
  have h1 := SD.as_ok h
  rw [hd] at h1
  have h2 : [D.sl (xs.map (encE t))] = [D.sl (ys.map (encE t'))] := h1
  injection h2 with h2
  injection h2
/-- Cells that were read, laid again. -/
theorem putCells_ok {s' : SS} {p : PS} (hs' : SimW s' p) {rows : List (Nat × Nat × Nat × Nat × Ty)} : ∀ {cs : List SV} {qs : List PV} {ds0 ds : List SD} {j : Nat} {bx bx' : List (Nat × Option SBox)} {vs : List SV}, CSim s'.bx cs qs → cellsOf s' rows j cs = some ds0 → ds0.map SD.toD = ds.map SD.toD → (∀ c ∈ ds, c ≠ .nl) →
    NoPins bx → BxOk bx p → putCells rows j ds bx = some (vs, bx') → NoPins bx' ∧ BxOk bx' p ∧ BLe bx bx' ∧ CSim bx' vs qs ∧ (∀ t, (∀ r ∈ rows, r.2.1 ≠ t) → lkB bx' t = lkB bx t)
  | [], qs, ds0, ds, j, bx, bx', vs, hc, h0, hd, _, hn, hb, h => by
    rcases hc.cases with ⟨_, rfl⟩ | ⟨_, _, _, _, h1, _⟩
    · injection h0 with h0
      subst h0
      have : ds = [] := by simpa using hd.symm
      subst this
      injection h with h
      injection h with e1 e2
      subst e1 e2
      exact ⟨hn, hb, .refl _, .nil, fun _ _ => rfl⟩
    · cases h1
  | c :: cs, qs, ds0, ds, j, bx, bx', vs, hc, h0, hd, hnl, hn, hb, h => by
    rcases hc.cases with ⟨h1, _⟩ | ⟨c', q, cs', qs', h1, rfl, hq, hcs⟩
    · cases h1
    injection h1 with e1 e2
    subst e1 e2
    have findR_mem : ∀ {rows : List (Nat × Nat × Nat × Nat × Ty)} {j R e k : Nat} {t : Ty}, findR rows j = some (R, e, k, t) → ∃ r ∈ rows, r.2.1 = R := by
      intro rows
      induction rows with
      | nil => intro j R e k t h; cases h
      | cons r rows ih =>
        intro j R e k t h
        obtain ⟨j', R', e', k', t'⟩ := r
        simp only [findR] at h
        split at h
        · injection h with h
          injection h with h _
          exact ⟨_, List.mem_cons_self, h⟩
        · obtain ⟨r, h1, h2⟩ := ih h
          exact ⟨r, List.mem_cons_of_mem _ h1, h2⟩
    simp only [cellsOf] at h0
    split at h0
    · rename_i R e k t hf
      split at h0
      · rename_i R' e' k' t' xs pins hbR
        split at h0
        · rename_i ht hsame
          have k1 := (chk_some h0).1
          replace h0 := (chk_some h0).2
          have k2 := (chk_some h0).1
          replace h0 := (chk_some h0).2
          have k3 := (chk_some h0).1
          replace h0 := (chk_some h0).2
          replace k1 : R' = R := by simpa [beq_spec] using k1
          replace k2 : e' = e := by simpa using k2
          replace k3 : k' = k := by simpa using k3
          subst k1 k2 k3 ht
          split at h0
          · rename_i r hr
            injection h0 with h0
            subst h0
            cases ds with
            | nil => simp at hd
            | cons d ds =>
              simp only [List.map_cons, List.cons.injEq] at hd
              obtain ⟨hd1, hd2⟩ := hd
              simp only [putCells, hf] at h
              split at h
              · rename_i xs' vs' bx1 hxs hp
                injection h with h
                injection h with e1 e2
                subst e1 e2
                obtain ⟨m1, m2, m3, m4, m5⟩ := putCells_ok hs' hcs hr hd2 (fun c hc => hnl c (List.mem_cons_of_mem _ hc)) hn hb hp
                have hpR : p.b R' = some (.rw e' k' (xs.map (encE t'))) := (hs'.bx R' _ hbR).1
                have hx : xs'.map (encE t') = xs.map (encE t') := sl_inj hxs (by rw [← hd1]; rfl)
                have hpR' : p.b R' = some (.rw e' k' (xs'.map (encE t'))) := by rw [hx]; exact hpR
                have hB := ble_rowIn m1 m2 hpR'
                refine ⟨m1.cons_rw, m2.cons hB ⟨hpR', fun p pin hp => by cases hp⟩, m3.trans hB, .cons ?_ (m4.mono hB), fun t2 ht2 => ?_⟩
                · cases hq with
                  | row _ n e2 k2 ty2 xs2 pins2 hb2 hn2 =>
                    rw [hbR] at hb2
                    injection hb2 with hb2
                    injection hb2 with q1 q2 q3 q4 q5
                    subst q3
                    have q4 := eq_of_heq q4
                    subst q4
                    refine .row R' n e' k' t' xs' [] (by rw [lkB_cons, if_pos rfl]) ?_
                    rw [← hn2]
                    exact len_inj hx
                · rw [lkB_cons, if_neg (fun e => by
                    obtain ⟨r, h1, h2⟩ := findR_mem hf
                    exact ht2 r h1 (h2.trans e.symm))]
                  exact m5 t2 ht2
              · cases h
          · cases h0
        · cases h0
      · cases h0
    · rename_i hf
      split at h0
      · rename_i x r hr
        injection h0 with h0
        subst h0
        cases ds with
        | nil => simp at hd
        | cons d ds =>
          simp only [List.map_cons, List.cons.injEq] at hd
          obtain ⟨hd1, hd2⟩ := hd
          simp only [putCells, hf] at h
          split at h
          · rename_i vs' bx1 hp
            injection h with h
            injection h with e1 e2
            subst e1 e2
            obtain ⟨m1, m2, m3, m4, m5⟩ := putCells_ok hs' hcs hr hd2 (fun c hc => hnl c (List.mem_cons_of_mem _ hc)) hn hb hp
            refine ⟨m1, m2, m3, .cons ?_ m4, m5⟩
            cases hq with
            | d _ y hy =>
              refine .d d y ?_
              have h1 := hy.nrm
              rw [hd1] at h1
              have h2 := hnl d List.mem_cons_self
              cases d <;> first | exact h1 | exact absurd rfl h2
          · cases h
      · cases h0
theorem enc1_nl {t : Ty} {c : SD} {x : t.den} (h : c.as t = some x) : enc1 t x ≠ .nl := by
  cases t with
  | st i => simp [SD.as] at h
  | _ => intro e; cases e
theorem mem_rows {t : Nat} : ∀ {rows : List (Nat × Nat × Nat × Nat × Ty)} {r : Nat × Nat × Nat × Nat × Ty}, r ∈ rows → r.2.1 = t → memN (rows.map (·.2.1)) t = true
  | [], r, h, _ => by cases h
  | a :: rows, r, h, e => by
    rw [List.map_cons, memN_cons, Bool.or_eq_true]
    rcases List.mem_cons.1 h with rfl | h
    · exact .inl (by simp [e])
    · exact .inr (mem_rows h e)
/-- One of those that turn, laid again. -/
theorem putM_ok {s' : SS} {p : PS} (hs' : SimW s' p) {m : Mod} {x : m.den} {c c' : SS} (hg : getM s' m = some x) (hc : SimW c p) (hn : NoPins c.bx) (h : putM m x c = some c') :
    SimW c' p ∧ NoPins c'.bx ∧ BLe c.bx c'.bx ∧ (∀ t, memN (modBoxes [m]) t = false → lkB c'.bx t = lkB c.bx t) := by
  cases m with
  | leaf i t =>
    simp only [putM] at h
    injection h with h
    subst h
    refine ⟨⟨fun j => ?_, hc.bx⟩, hn, .refl _, fun _ _ => rfl⟩
    show VSim c.bx (lkV ((i, .d (enc1 t x)) :: c.sl) j) (p.t j)
    rw [lkV_cons]
    split
    · rename_i e
      subst e
      have h1 := hs'.sl j
      have hg : (match lkV s'.sl j with | .d c => c.as t | _ => none) = some (show t.den from x) := hg
      split at hg
      · rename_i c0 hc0
        rw [hc0] at h1
        obtain ⟨y, hp, hy⟩ := vs_d h1
        rw [hp]
        refine .d _ y ?_
        have h2 := hy.nrm
        rw [← enc1_as hg] at h2
        have h3 := enc1_nl hg
        revert h2 h3
        generalize enc1 t x = z
        intro h2 h3
        cases z <;> first | exact h2 | exact absurd rfl h3
      · exact noneN hg
    · exact hc.sl j
  | agg i n =>
    simp only [putM] at h
    injection h with h
    subst h
    refine ⟨⟨fun j => ?_, hc.bx⟩, hn, .refl _, fun _ _ => rfl⟩
    show VSim c.bx (lkV ((i, .ag (mapD (stC n x))) :: c.sl) j) (p.t j)
    rw [lkV_cons]
    split
    · rename_i e
      subst e
      have h1 := hs'.sl j
      simp only [getM] at hg
      split at hg
      · rename_i cs hcs
        split at hg
        · rename_i ds hds
          rw [hcs] at h1
          obtain ⟨qs, h2, h3⟩ := vs_ag h1
          rw [h2]
          have h4 := rowDs_sim h3 hds
          have h5 := stK_ok hg
          have hlen : qs.length = (stC n x).length := by
            have a := rowDs_len hds
            have b := h3.len
            have c := congrArg List.length h5
            have d := congrArg List.length (stC_ok n x)
            simp only [List.length_map] at c d
            omega
          refine .ag _ qs (by rw [mapD_eq, List.length_map]; exact hlen.symm) (fun k v q k1 k2 => ?_)
          rw [mapD_eq, List.getElem?_map, Option.map_eq_some_iff] at k1
          obtain ⟨z, k3, rfl⟩ := k1
          obtain ⟨y, k4, k5⟩ := mapM_toD qs _ h4 |>.2 k (z.toD) (by
            have h7 : (stC n x).map SD.toD = stD n x := stC_ok n x
            rw [h5, ← h7, List.getElem?_map, k3]
            rfl)
          rw [k2] at k4
          injection k4 with k4
          subst k4
          have h6 := stC_nl n x z (List.mem_of_getElem? k3)
          refine .d z y ?_
          cases z <;> first | exact k5.symm | exact absurd rfl h6
        · exact noneN hg
      · exact noneN hg
    · exact hc.sl j
  | row i R e k t =>
    simp only [putM] at h
    injection h with h
    subst h
    simp only [getM] at hg
    split at hg
    · rename_i R' e' k' t' xs pins hv hb
      split at hg
      · rename_i ht hsame
        have k1 := (chk_some hg).1
        replace hg := (chk_some hg).2
        have k2 := (chk_some hg).1
        replace hg := (chk_some hg).2
        have k3 := (chk_some hg).1
        replace hg := (chk_some hg).2
        replace k1 : R' = R := by simpa [beq_spec] using k1
        replace k2 : e' = e := by simpa using k2
        replace k3 : k' = k := by simpa using k3
        subst k1 k2 k3 ht
        injection hg with hg
        subst hg
        have hpR : p.b R' = some (.rw e' k' (xs.map (encE t'))) := (hs'.bx R' _ hb).1
        have hB := ble_rowIn hn hc.bx hpR
        refine ⟨⟨fun j => ?_, BxOk.cons hc.bx hB ⟨hpR, fun p pin hp => by cases hp⟩⟩, hn.cons_rw, hB, fun t2 ht2 => ?_⟩
        · show VSim _ (lkV ((i, .row R') :: c.sl) j) (p.t j)
          rw [lkV_cons]
          split
          · rename_i e
            subst e
            have h1 := hs'.sl j
            rw [hv] at h1
            obtain ⟨n, h2⟩ := vs_row h1
            rw [h2] at h1 ⊢
            cases h1 with
            | row _ _ e2 k2 ty2 xs2 pins2 hb2 hn2 =>
              rw [hb] at hb2
              injection hb2 with hb2
              injection hb2 with q1 q2 q3 q4 q5
              subst q3
              have q4 := eq_of_heq q4
              subst q4
              exact .row R' n e' k' t' xs [] (by rw [lkB_cons, if_pos rfl]; rfl) hn2
          · exact (hc.sl j).mono hB
        · show lkB ((R', _) :: c.bx) t2 = _
          rw [lkB_cons, if_neg (fun e => by subst e; simp [modBoxes, memN_cons] at ht2)]
      · exact noneN hg
    · exact noneN hg
  | box b ty n rows =>
    simp only [putM] at h
    split at h
    · rename_i vs bx hp
      injection h with h
      subst h
      simp only [getM] at hg
      split at hg
      · rename_i ty' cs hb
        have k1 := (chk_some hg).1
        replace hg := (chk_some hg).2
        replace k1 : ty' = ty := by simpa using k1
        subst k1
        replace hg := (chk_some hg).2
        split at hg
        · rename_i ds hds
          obtain ⟨qs, h1, h2⟩ := hs'.bx b _ hb
          have h3 := stK_ok hg
          obtain ⟨m1, m2, m3, m4, m5⟩ := putCells_ok hs' h2 hds (h3.trans (stC_ok n x).symm) (stC_nl n x) hn hc.bx hp
          have hB := ble_stIn (cs := vs) m2 h1
          refine ⟨⟨fun j => ((hc.sl j).mono m3).mono hB, BxOk.cons m2 hB ⟨qs, h1, m4.mono hB⟩⟩, m1.cons_st, m3.trans hB, fun t2 ht2 => ?_⟩
          simp only [modBoxes, memN_cons, memN_app, Bool.or_eq_false_iff] at ht2
          show lkB ((b, _) :: bx) t2 = _
          rw [lkB_cons, if_neg (fun e => by have := ht2.1; simp [e] at this)]
          refine m5 t2 fun r hr e => ?_
          have := mem_rows hr e
          rw [this] at ht2
          cases ht2.2.1
        · exact noneN hg
      · exact noneN hg
    · cases h
end Go.Proofs.Ytcphpbhngnnpmaa

/- The typed executor: where ways meet. -/
namespace Go.Proofs.Ytcphpbhngnnpmaa
open Go.RowKit

variable {sc wr : List Nat}
theorem modBoxes_cons (m : Mod) (l : List Mod) (t : Nat) : memN (modBoxes (m :: l)) t = (memN (modBoxes [m]) t || memN (modBoxes l) t) := by
  cases m with
  | leaf i t' => simp [modBoxes, memN]
  | agg i n => simp [modBoxes, memN]
  | row i R e k t' => simp [modBoxes, memN_cons, memN]
  | box b ty n rows => simp [modBoxes, memN_cons, memN_app, memN, Bool.or_assoc]
def modKey : Mod → Option Nat
  | .leaf i _ => some i
  | .agg i _ => some i
  | .row i _ _ _ _ => some i
  | .box .. => none
theorem putM_sl {m : Mod} {x : m.den} {l : List (Nat × SV)} {bx : List (Nat × Option SBox)} {pr oc : List Nat} {ro : Bool} {s2 : SS} (h : putM m x ⟨l, bx, pr, ro, oc⟩ = some s2) :
    ∃ X bx2, s2 = ⟨X ++ l, bx2, pr, ro, oc⟩ ∧ (∀ l', putM m x ⟨l', bx, pr, ro, oc⟩ = some ⟨X ++ l', bx2, pr, ro, oc⟩) ∧ ∀ i, memN (X.map (·.1)) i = true → modKey m = some i := by
  cases m with
  | leaf i t => simp only [putM] at h ⊢; injection h with h; subst h; exact ⟨[(i, .d (enc1 t x))], bx, rfl, fun _ => rfl, fun j hj => by simp [memN_cons, memN] at hj; simp [modKey, hj]⟩
  | agg i n => simp only [putM] at h ⊢; injection h with h; subst h; exact ⟨[(i, .ag (mapD (stC n x)))], bx, rfl, fun _ => rfl, fun j hj => by simp [memN_cons, memN] at hj; simp [modKey, hj]⟩
  | row i R e k t => simp only [putM] at h ⊢; injection h with h; subst h; exact ⟨[(i, .row R)], _, rfl, fun _ => rfl, fun j hj => by simp [memN_cons, memN] at hj; simp [modKey, hj]⟩
  | box b ty n rows =>
    simp only [putM] at h ⊢
    split at h
    · rename_i vs bx' hp
      injection h with h
      subst h
      exact ⟨[], _, rfl, fun _ => rfl, fun j hj => by cases hj⟩
    · cases h
theorem putMs_sl : ∀ {ms : List Mod} {st : modsT ms} {l : List (Nat × SV)} {bx : List (Nat × Option SBox)} {pr oc : List Nat} {ro : Bool} {s2 : SS}, putMs ms st ⟨l, bx, pr, ro, oc⟩ = some s2 →
    ∃ X bx2, s2 = ⟨X ++ l, bx2, pr, ro, oc⟩ ∧ (∀ l', putMs ms st ⟨l', bx, pr, ro, oc⟩ = some ⟨X ++ l', bx2, pr, ro, oc⟩) ∧ ∀ i, memN (X.map (·.1)) i = true → ∃ m ∈ ms, modKey m = some i
  | [], st, l, bx, pr, oc, ro, s2, h => by injection h with h; subst h; exact ⟨[], bx, rfl, fun _ => rfl, fun j hj => by cases hj⟩
  | [m], st, l, bx, pr, oc, ro, s2, h => by
    obtain ⟨X, bx2, h1, h2, h3⟩ := putM_sl (show putM m st _ = some s2 from h)
    exact ⟨X, bx2, h1, h2, fun i hi => ⟨m, List.mem_cons_self, h3 i hi⟩⟩
  | m :: m' :: ms, st, l, bx, pr, oc, ro, s2, h => by
    have h : (match putMs (m' :: ms) st.2 ⟨l, bx, pr, ro, oc⟩ with | some s => putM m st.1 s | none => none) = some s2 := h
    split at h
    · rename_i s1 h1
      obtain ⟨X, bx2, rfl, k2, k3⟩ := putMs_sl h1
      obtain ⟨Y, bx3, rfl, m2, m3⟩ := putM_sl h
      refine ⟨Y ++ X, bx3, by simp, fun l' => ?_, fun i hi => ?_⟩
      · show (match putMs (m' :: ms) st.2 ⟨l', bx, pr, ro, oc⟩ with | some s => putM m st.1 s | none => none) = _
        rw [k2 l']
        simp only
        rw [m2]
        simp
      · rw [List.map_append, memN_app, Bool.or_eq_true] at hi
        rcases hi with hi | hi
        · exact ⟨m, List.mem_cons_self, m3 i hi⟩
        · obtain ⟨m0, h4, h5⟩ := k3 i hi
          exact ⟨m0, List.mem_cons_of_mem _ h4, h5⟩
    · cases h
theorem lkV_app : ∀ (X l : List (Nat × SV)) (i : Nat), lkV (X ++ l) i = if memN (X.map (·.1)) i = true then lkV X i else lkV l i
  | [], l, i => by simp [memN]
  | (j, v) :: X, l, i => by
    simp only [List.cons_append, lkV_cons, lkV_app X l i, List.map_cons, memN_cons]
    by_cases e : i = j
    · simp [e]
    · simp [e]
theorem getM_rw {s' : SS} {m : Mod} {x : m.den} (hg : getM s' m = some x) {t : Nat} (ht : memN (modBoxes [m]) t = true) {ty : TypeId} {cs : List SV} (hb : lkB s'.bx t = some (.st ty cs)) : ∃ ty n rows, m = .box t ty n rows := by
  cases m with
  | leaf i t' => cases ht
  | agg i n => cases ht
  | row i R e k t' =>
    simp only [modBoxes, memN_cons, memN, Bool.or_false, decide_eq_true_eq] at ht
    subst ht
    have hg : (match lkV s'.sl i, lkB s'.bx t with | .row R', some (.rw e' k' t2 xs _) => (match Ty.same t2 t' with | some ⟨h⟩ => chk (Nat.beq R' t) (chk (e' == e) (chk (k' == k) (some (castL h xs)))) | none => none) | _, _ => none) = some (show List t'.den from x) := hg
    rw [hb] at hg
    split at hg
    · rename_i h2; cases h2
    · cases hg
  | box b ty' n rows =>
    simp only [modBoxes, memN_cons, memN_app, memN, Bool.or_false, Bool.or_eq_true, decide_eq_true_eq] at ht
    rcases ht with ht | ht
    · subst ht; exact ⟨_, _, _, rfl⟩
    · exfalso
      simp only [getM] at hg
      split at hg
      · have h1 := (chk_some (chk_some hg).2).1
        have key : ∀ rows : List (Nat × Nat × Nat × Nat × Ty), memN (rows.map (·.2.1)) t = true → (rows.all fun r => isRw (lkB s'.bx r.2.1)) = true → isRw (lkB s'.bx t) = true := by
          intro rows
          induction rows with
          | nil => intro h; cases h
          | cons r rows ih =>
            intro h h2
            rw [List.all_cons, Bool.and_eq_true] at h2
            rw [List.map_cons, memN_cons, Bool.or_eq_true] at h
            rcases h with h | h
            · have := of_decide_eq_true h
              rw [this]; exact h2.1
            · exact ih h h2.2
        have h2 := key rows ht h1
        rw [hb] at h2
        cases h2
      · exact noneN hg
theorem packM_ok {s' : SS} {p : PS} (hs' : SimW s' p) : ∀ {ms : List Mod} {st : modsT ms} {c c' : SS}, packM s' ms = some st → SimW c p → NoPins c.bx → putMs ms st c = some c' →
    SimW c' p ∧ NoPins c'.bx ∧ BLe c.bx c'.bx ∧ (∀ t, memN (modBoxes ms) t = false → lkB c'.bx t = lkB c.bx t) ∧ ∀ t, memN (modBoxes ms) t = true → ∀ ty cs, lkB s'.bx t = some (.st ty cs) → ∃ ty' cs', lkB c'.bx t = some (.st ty' cs')
  | [], st, c, c', _, hc, hn, h => by injection h with h; subst h; exact ⟨hc, hn, .refl _, fun _ _ => rfl, fun t ht => by cases ht⟩
  | [m], st, c, c', hp, hc, hn, h => by
    have hg : getM s' m = some st := hp
    have h : putM m st c = some c' := h
    obtain ⟨h1, h2, h3, h4⟩ := putM_ok hs' hg hc hn h
    refine ⟨h1, h2, h3, h4, fun t ht ty cs hb => ?_⟩
    obtain ⟨ty', n, rows, rfl⟩ := getM_rw hg ht hb
    simp only [putM] at h
    split at h
    · injection h with h
      subst h
      exact ⟨_, _, by show lkB ((t, _) :: _) t = _; rw [lkB_cons, if_pos rfl]⟩
    · cases h
  | m :: m' :: ms, st, c, c', hp, hc, hn, h => by
    have hp : Option.bind (getM s' m) (fun x => Option.bind (packM s' (m' :: ms)) fun xs => some (x, xs)) = some st := hp
    obtain ⟨x, hg, hp2⟩ := bindS hp
    obtain ⟨xs, hp3, he⟩ := bindS hp2
    injection he with he
    subst he
    have h : (match putMs (m' :: ms) xs c with | some s => putM m x s | none => none) = some c' := h
    split at h
    · rename_i c1 h1
      obtain ⟨k1, k2, k3, k4, k5⟩ := packM_ok hs' hp3 hc hn h1
      obtain ⟨n1, n2, n3, n4⟩ := putM_ok hs' hg k1 k2 h
      refine ⟨n1, n2, k3.trans n3, fun t ht => ?_, fun t ht ty cs hb => ?_⟩
      · rw [modBoxes_cons, Bool.or_eq_false_iff] at ht
        rw [n4 t ht.1, k4 t ht.2]
      · rw [modBoxes_cons, Bool.or_eq_true] at ht
        rcases ht with ht | ht
        · obtain ⟨ty', n, rows, rfl⟩ := getM_rw hg ht hb
          simp only [putM] at h
          split at h
          · injection h with h
            subst h
            exact ⟨_, _, by show lkB ((t, _) :: _) t = _; rw [lkB_cons, if_pos rfl]⟩
          · cases h
        · obtain ⟨ty', cs', h5⟩ := k5 t ht ty cs hb
          exact n3.st t ty' cs' h5
    · cases h
theorem modsOk_spec {s : SS} : ∀ {ms : List Mod}, modsOk wr s ms = true → (∀ m ∈ ms, ∀ i, modKey m = some i → memN wr i = true ∨ ∃ R, memN (modBoxes ms) R = true ∧ lkV s.sl i = .row R) ∧ ∀ t, memN (modBoxes ms) t = true → memN s.pr t = false
  | [], _ => ⟨fun m hm => (by cases hm), fun t ht => (by cases ht)⟩
  | m :: ms, h => by
    have key : modsOk wr s ms = true ∧ (∀ i, modKey m = some i → memN wr i = true ∨ ∃ R, memN (modBoxes [m]) R = true ∧ lkV s.sl i = .row R) ∧ ∀ t, memN (modBoxes [m]) t = true → memN s.pr t = false := by
      cases m with
      | leaf i t =>
        simp only [modsOk] at h
        split at h
        · rename_i hw; exact ⟨h, fun j hj => by injection hj with hj; subst hj; exact .inl hw, fun t ht => by cases ht⟩
        · cases h
      | agg i n =>
        simp only [modsOk] at h
        split at h
        · rename_i hw; exact ⟨h, fun j hj => by injection hj with hj; subst hj; exact .inl hw, fun t ht => by cases ht⟩
        · cases h
      | row i R e k t =>
        simp only [modsOk] at h
        split at h
        · rename_i hp hw
          refine ⟨h, fun j hj => ?_, fun t ht => ?_⟩
          · injection hj with hj
            subst hj
            rw [Bool.or_eq_true] at hw
            rcases hw with hw | hw
            · exact .inl hw
            · unfold isRow at hw
              split at hw
              · rename_i R' hv
                rw [beq_spec] at hw
                have := of_decide_eq_true hw
                subst this
                exact .inr ⟨R', by simp [modBoxes, memN_cons], hv⟩
              · cases hw
          · simp only [modBoxes, memN_cons, memN, Bool.or_false, decide_eq_true_eq] at ht
            subst ht; exact hp
        · cases h
      | box b ty n rows =>
        simp only [modsOk] at h
        split at h
        · rename_i hp hr
          refine ⟨h, fun j hj => (by cases hj), fun t ht => ?_⟩
          simp only [modBoxes, memN_cons, memN_app, memN, Bool.or_false, Bool.or_eq_true, decide_eq_true_eq] at ht
          rcases ht with ht | ht
          · subst ht; exact hp
          · clear h
            induction rows with
            | nil => cases ht
            | cons r rows ih =>
              rw [List.all_cons, Bool.and_eq_true] at hr
              rw [List.map_cons, memN_cons, Bool.or_eq_true] at ht
              rcases ht with ht | ht
              · have := of_decide_eq_true ht
                rw [this]; simpa using hr.1
              · exact ih hr.2 ht
        · cases h
    obtain ⟨h1, h2, h3⟩ := key
    obtain ⟨h4, h5⟩ := modsOk_spec h1
    refine ⟨fun m0 hm i hi => ?_, fun t ht => ?_⟩
    · rcases List.mem_cons.1 hm with rfl | hm
      · rcases h2 i hi with h | ⟨R, h6, h7⟩
        · exact .inl h
        · exact .inr ⟨R, by rw [modBoxes_cons, h6]; rfl, h7⟩
      · rcases h4 m0 hm i hi with h | ⟨R, h6, h7⟩
        · exact .inl h
        · exact .inr ⟨R, by rw [modBoxes_cons, h6]; simp, h7⟩
    · rw [modBoxes_cons, Bool.or_eq_true] at ht
      exact ht.elim (h3 t) (h5 t)
theorem norows_get : ∀ {cs : List SV} (_ : norows cs = true) {j : Nat} {c : SV}, cs[j]? = some c → norow c = true
  | [], _, j, c, h => by simp at h
  | d :: cs, h, j, c, hj => by
    simp only [norows] at h
    split at h
    · rename_i h1
      cases j with
      | zero => simp at hj; subst hj; exact h1
      | succ j => simp at hj; exact norows_get h hj
    · cases h
theorem vsim_norow {B B' : List (Nat × Option SBox)} {v : SV} {q : PV} (h : VSim B v q) : norow v = true → VSim B' v q := by
  induction h with
  | junk q => exact fun _ => .junk q
  | d c y h => exact fun _ => .d c y h
  | ag cs qs hl hr ih => exact fun hs => .ag cs qs hl fun j c q h1 h2 => ih j c q h1 h2 (norows_get hs h1)
  | tup cs qs hl hr ih => exact fun hs => .tup cs qs hl fun j c q h1 h2 => ih j c q h1 h2 (norows_get hs h1)
  | ptr t o ty cs hb => exact fun hs => by cases hs
  | row t n e k ty xs pins hb hn => exact fun hs => by cases hs
  | re t p o n i e k ty xs pins pin hb hn hp hi => exact fun hs => by cases hs
  | fe cs ds h hn => exact fun _ => .fe cs ds h hn
/-- The state at a head, with what may not be written in the round. -/
def headS (sc wr : List Nat) (ms : List Mod) (s1 : SS) : SS := ⟨s1.sl, s1.bx, (baseS sc wr ms s1).pr, s1.ro, s1.oc⟩
theorem pr_spec (ms : List Mod) (s1 : SS) (t : Nat) : memN (baseS sc wr ms s1).pr t = true ↔ memN (modBoxes ms) t = false ∧ memN sc t = false ∧ ∃ b, lkB s1.bx t = some b ∧ plainBox b = true := by
  show memN (prBoxes (modBoxes ms ++ sc) s1.bx []) t = true ↔ _
  rw [prBoxes_spec, memN_app, Bool.or_eq_false_iff]
  simp [memN, and_assoc]
theorem head_prOk (ms : List Mod) (s1 : SS) : PrOk (headS sc wr ms s1) := fun t ht => ((pr_spec (wr := wr) ms s1 t).1 ht).2.2
theorem base_pr {ms : List Mod} {s1 : SS} {t : Nat} (h : memN (baseS sc wr ms s1).pr t = true) : lkB (baseS sc wr ms s1).bx t = unpinB (lkB s1.bx t) := by
  obtain ⟨_, h2, _⟩ := (pr_spec ms s1 t).1 h
  show lkB (scBx s1.bx sc (keepBx (baseS sc wr ms s1).pr s1.bx [])) t = _
  rw [(scBx_spec s1.bx sc _ t).2 (.inl h2), keepBx_spec, h]
  simp [memN]
theorem base_sc {ms : List Mod} {s1 : SS} {t : Nat} (h : memN sc t = true) {ty : TypeId} {cs : List SV} (hb : lkB s1.bx t = some (.st ty cs)) : lkB (baseS sc wr ms s1).bx t = some (.st ty (junks cs)) :=
  (scBx_spec s1.bx sc _ t).1 h ty cs hb
theorem base_cases {ms : List Mod} {s1 : SS} {t : Nat} {b : SBox} (h : lkB (baseS sc wr ms s1).bx t = some b) : memN (baseS sc wr ms s1).pr t = true ∨ memN sc t = true ∧ ∃ ty cs, lkB s1.bx t = some (.st ty cs) := by
  by_cases h1 : memN sc t = true ∧ ∃ ty cs, lkB s1.bx t = some (.st ty cs)
  · exact .inr h1
  · left
    have h2 : memN sc t = false ∨ ∀ ty cs, lkB s1.bx t ≠ some (.st ty cs) := by
      by_cases h3 : memN sc t = true
      · exact .inr fun ty cs h4 => h1 ⟨h3, ty, cs, h4⟩
      · exact .inl (by simpa using h3)
    have h : lkB (scBx s1.bx sc (keepBx (baseS sc wr ms s1).pr s1.bx [])) t = some b := h
    rw [(scBx_spec s1.bx sc _ t).2 h2, keepBx_spec] at h
    cases h4 : memN (baseS sc wr ms s1).pr t with
    | true => rfl
    | false => rw [h4] at h; simp [memN] at h
/-- **Where ways meet.** -/
theorem meet_ok {ms : List Mod} {s1 s' : SS} {p1 p' : PS} {st : modsT ms} {s2 : SS} (hs1 : SimW s1 p1) (hchk : modChk sc wr ms s1.pr s1 = true) (hk : Keep sc wr (headS sc wr ms s1) s') (hs' : SimW s' p') (hpk : packM s' ms = some st) (hput : putMs ms st (baseS sc wr ms s1) = some s2) :
    SimW s2 p' ∧ Keep sc wr (headS sc wr ms s1) s2 ∧ s2.pr = (baseS sc wr ms s1).pr := by
  unfold modChk at hchk
  simp only [Bool.and_eq_true] at hchk
  obtain ⟨c1, c2, c3, c4⟩ := hchk
  obtain ⟨o1, o2⟩ := modsOk_spec c1
  have hscm := disjN_spec c3
  obtain ⟨X, bx2, rfl, hX, hkeys⟩ := putMs_sl (show putMs ms st ⟨(baseS sc wr ms s1).sl, (baseS sc wr ms s1).bx, (baseS sc wr ms s1).pr, (baseS sc wr ms s1).ro, (baseS sc wr ms s1).oc⟩ = some s2 from hput)
  have hX0 := hX []
  rw [List.append_nil] at hX0
  -- the boxes of the base
  have hsame : ∀ t, memN (baseS sc wr ms s1).pr t = true → SameB (lkB s1.bx t) (lkB s'.bx t) := hk.bx
  have hbx : BxOk (baseS sc wr ms s1).bx p' := by
    intro t b hb
    rcases base_cases hb with h | ⟨h, ty, cs, h1⟩
    · obtain ⟨_, _, b1, h2, h3⟩ := (pr_spec ms s1 t).1 h
      have h4 := hsame t h
      rw [base_pr h, h2] at hb
      rw [h2] at h4
      cases b1 with
      | st ty cs =>
        injection hb with hb
        subst hb
        obtain ⟨qs, h5, h6⟩ := hs'.bx t _ h4
        exact ⟨qs, h5, h6.len, fun j c q m1 m2 => vsim_norow (h6.rep j c q m1 m2) (norows_get h3 m1)⟩
      | rw e k ty xs pins =>
        injection hb with hb
        subst hb
        obtain ⟨pins', h4⟩ := h4
        exact ⟨(hs'.bx t _ h4).1, fun p pin hp => by cases hp⟩
    · rw [base_sc h h1] at hb
      injection hb with hb
      subst hb
      obtain ⟨cs', h2, h3⟩ := hk.st t h ty cs h1
      obtain ⟨qs, h4, h5⟩ := hs'.bx t _ h2
      refine ⟨qs, h4, by rw [junks_len, ← h3]; exact h5.len, fun j c q m1 m2 => ?_⟩
      rw [junks_get cs j c m1]
      exact .junk q
  have hnp : NoPins (baseS sc wr ms s1).bx := by
    intro t e k ty xs pins hb
    rcases base_cases hb with h | ⟨h, ty2, cs, h1⟩
    · rw [base_pr h] at hb
      cases hl : lkB s1.bx t with
      | none => rw [hl] at hb; cases hb
      | some b =>
        rw [hl] at hb
        cases b with
        | st => cases hb
        | rw e2 k2 ty2 xs2 pins2 =>
          injection hb with hb
          injection hb with q1 q2 q3 q4 q5
          exact q5.symm
    · rw [base_sc h h1] at hb; cases hb
  have hc0 : SimW ⟨[], (baseS sc wr ms s1).bx, (baseS sc wr ms s1).pr, (baseS sc wr ms s1).ro, (baseS sc wr ms s1).oc⟩ p' := ⟨fun i => .junk _, hbx⟩
  obtain ⟨k1, k2, k3, k4, k5⟩ := packM_ok hs' hpk hc0 hnp hX0
  have k4 : ∀ t, memN (modBoxes ms) t = false → lkB bx2 t = lkB (baseS sc wr ms s1).bx t := k4
  have hprm : ∀ t, memN (baseS sc wr ms s1).pr t = true → memN (modBoxes ms) t = false := fun t ht => ((pr_spec ms s1 t).1 ht).1
  have hkb : ∀ t, memN (modBoxes ms ++ (scLive s1.bx sc ++ (baseS sc wr ms s1).pr)) t = true → ∀ ty cs, lkB s'.bx t = some (.st ty cs) → ∃ ty' cs', lkB bx2 t = some (.st ty' cs') := by
    intro t ht ty cs hb
    rw [memN_app, memN_app, Bool.or_eq_true, Bool.or_eq_true] at ht
    rcases ht with ht | ht | ht
    · exact k5 t ht ty cs hb
    · obtain ⟨h1, ty2, cs2, h2⟩ := (scLive_spec s1.bx sc t).1 ht
      rw [k4 t (hscm t h1), base_sc h1 h2]
      exact ⟨_, _, rfl⟩
    · rw [k4 t (hprm t ht), base_pr ht]
      have h1 := hsame t ht
      obtain ⟨_, _, b1, h2, h3⟩ := (pr_spec ms s1 t).1 ht
      rw [h2] at h1 ⊢
      cases b1 with
      | st ty2 cs2 => exact ⟨_, _, rfl⟩
      | rw e k ty2 xs pins =>
        obtain ⟨pins', h1⟩ := h1
        rw [h1] at hb
        cases hb
  have hbase : ∀ i, lkV (baseS sc wr ms s1).sl i = if memN wr i = true then .junk else if safe (baseS sc wr ms s1).pr (modBoxes ms ++ (scLive s1.bx sc ++ (baseS sc wr ms s1).pr)) (lkV s1.sl i) = true then lkV s1.sl i else .junk := fun i => by
    show lkV (keepSl wr (baseS sc wr ms s1).pr (modBoxes ms ++ (scLive s1.bx sc ++ (baseS sc wr ms s1).pr)) s1.sl []) i = _
    rw [keepSl_spec]
    simp [memN]
  refine ⟨⟨fun i => ?_, k1.bx⟩, ⟨rfl, rfl, fun t ht => ?_, fun i hi hsf => ?_, fun t ht ty cs hb => ?_⟩, rfl⟩
  · show VSim bx2 (lkV (X ++ (baseS sc wr ms s1).sl) i) (p'.t i)
    rw [lkV_app]
    split
    · exact k1.sl i
    · rw [hbase]
      split
      · exact .junk _
      · rename_i hw
        split
        · rename_i hsf
          have e := hk.sl i (by simpa using hw) (safe_K (fun t h => h) _ hsf)
          have h1 := hs'.sl i
          rw [e] at h1
          refine vsim_safe (fun t ht e k ty xs pins hb => ?_) hkb h1 hsf
          rw [k4 t (hprm t ht), base_pr ht]
          have h2 := hsame t ht
          obtain ⟨_, _, b1, h3, h4⟩ := (pr_spec ms s1 t).1 ht
          rw [h3] at h2 ⊢
          cases b1 with
          | st ty2 cs2 => have h2 : lkB s'.bx t = some (.st ty2 cs2) := h2; rw [h2] at hb; cases hb
          | rw e2 k2 ty2 xs2 pins2 =>
            obtain ⟨pins', h2⟩ := h2
            rw [h2] at hb
            injection hb with hb
            injection hb with q1 q2 q3 q4 q5
            subst q3
            have q4 := eq_of_heq q4
            subst q4
            exact ⟨_, _, _, _, _, rfl, rfl⟩
        · exact .junk _
  · show SameB (lkB s1.bx t) (lkB bx2 t)
    have ht : memN (baseS sc wr ms s1).pr t = true := ht
    rw [k4 t (hprm t ht), base_pr ht]
    match lkB s1.bx t with
    | none => rfl
    | some (.st _ _) => rfl
    | some (.rw _ _ _ _ _) => exact ⟨[], rfl⟩
  · show lkV (X ++ (baseS sc wr ms s1).sl) i = lkV s1.sl i
    have hsf : safeK (baseS sc wr ms s1).pr (lkV s1.sl i) = true := hsf
    rw [lkV_app, if_neg, hbase, if_neg (by simp [hi]), if_pos]
    · refine safeK_safe (fun t h => h) (fun t ty cs hb => ?_) (hs1.sl i) hsf
      rw [memN_app, memN_app, Bool.or_eq_true, Bool.or_eq_true]
      rcases keptAll_spec _ _ _ _ c4 t ty cs rfl hb with h | h | h
      · exact .inl h
      · exact .inr (.inl ((scLive_spec s1.bx sc t).2 ⟨h, ty, cs, hb⟩))
      · by_cases hm : memN (modBoxes ms) t = true
        · exact .inl hm
        · by_cases hsc : memN sc t = true
          · exact .inr (.inl ((scLive_spec s1.bx sc t).2 ⟨hsc, ty, cs, hb⟩))
          · exact .inr (.inr ((pr_spec ms s1 t).2 ⟨by simpa using hm, by simpa using hsc, _, hb, h⟩))
    · intro hX1
      obtain ⟨m, hm, hkey⟩ := hkeys i hX1
      rcases o1 m hm i hkey with h | ⟨R, h1, h2⟩
      · rw [h] at hi; cases hi
      · rw [h2] at hsf
        have hsf : memN (baseS sc wr ms s1).pr R = true := hsf
        rw [hprm R hsf] at h1
        cases h1
  · show ∃ cs', lkB bx2 t = _ ∧ _
    rw [k4 t (hscm t ht), base_sc ht (show lkB s1.bx t = _ from hb)]
    exact ⟨_, rfl, junks_len cs⟩
end Go.Proofs.Ytcphpbhngnnpmaa

/- The typed executor: what it makes of a function's code, the code does. -/
namespace Go.Proofs.Ytcphpbhngnnpmaa
open Go.RowKit

/-! ### Results -/
theorem resX_ok {P : Program} {s : SS} {p : PS} (hs : Sim s p) : ∀ {l : List ResultVar} {vs : List SV}, resX P s l = some vs → ∃ qs, l.mapM (resP P p) = some qs ∧ CSim s.bx vs qs
  | [], vs, h => by injection h with h; subst h; exact ⟨[], rfl, .nil⟩
  | .tmp t :: l, vs, h => by
    simp only [resX] at h
    split at h
    · rename_i vs' h1
      injection h with h
      subst h
      obtain ⟨qs, h2, h3⟩ := resX_ok hs h1
      exact ⟨p.t t :: qs, by simp [List.mapM_cons, resP, h2], .cons (hs.sl t) h3⟩
    · cases h
  | .cell t ty :: l, vs, h => by
    simp only [resX] at h
    split at h
    · rename_i v vs' h0 h1
      injection h with h
      subst h
      obtain ⟨qs, h2, h3⟩ := resX_ok hs h1
      obtain ⟨r, h4, h5⟩ := loadX_ok hs (hs.sl t) h0
      exact ⟨r :: qs, by simp [List.mapM_cons, resP, h4, h2], .cons h5 h3⟩
    · cases h
theorem decRs_ok {s : SS} {p : PS} (hs : Sim s p) : ∀ {rs : List PT} {vs : List SV} {qs : List PV} {x : densR rs}, CSim s.bx vs qs → decRs s rs vs = some x → asDatas p.b qs = toRs rs x
  | [], [], qs, x, hv, h => by
    rcases hv.cases with ⟨_, rfl⟩ | ⟨_, _, _, _, h1, _⟩
    · rfl
    · cases h1
  | [], _ :: _, _, x, _, h => noneN (x := x) h
  | [t], [], _, x, _, h => noneN (x := x) h
  | [t], [v], qs, x, hv, h => by
    rcases hv.cases with ⟨h1, _⟩ | ⟨v', q, vs', qs', h1, rfl, h2, h3⟩
    · cases h1
    · injection h1 with e1 e2
      subst e1 e2
      rcases h3.cases with ⟨_, rfl⟩ | ⟨_, _, _, _, h4, _⟩
      · have := (decA_ok hs h2 (show decA s t v = some x from h)).1
        simp only [asDatas, toRs, this]
      · cases h4
  | [t], _ :: _ :: _, _, x, _, h => noneN (x := x) h
  | t :: t' :: rs, [], _, x, _, h => noneN (x := x) h
  | t :: t' :: rs, v :: vs, qs, x, hv, h => by
    rcases hv.cases with ⟨h1, _⟩ | ⟨v', q, vs', qs', h1, rfl, h2, h3⟩
    · cases h1
    · injection h1 with e1 e2
      subst e1 e2
      have h : Option.bind (decA s t v) (fun x => Option.bind (decRs s (t' :: rs) vs) fun xs => some (x, xs)) = some x := h
      obtain ⟨y, h4, h5⟩ := bindS h
      obtain ⟨ys, h6, h7⟩ := bindS h5
      injection h7 with h7
      subst h7
      simp only [asDatas, toRs, (decA_ok hs h2 h4).1, decRs_ok hs h3 h6]
theorem decRs_len {s : SS} : ∀ {rs : List PT} {vs : List SV} {x : densR rs}, decRs s rs vs = some x → vs.length = rs.length
  | [], [], x, _ => rfl
  | [], _ :: _, x, h => noneN (x := x) h
  | [t], [], x, h => noneN (x := x) h
  | [t], [v], x, _ => rfl
  | [t], _ :: _ :: _, x, h => noneN (x := x) h
  | t :: t' :: rs, [], x, h => noneN (x := x) h
  | t :: t' :: rs, v :: vs, x, h => by
    have h : Option.bind (decA s t v) (fun x => Option.bind (decRs s (t' :: rs) vs) fun xs => some (x, xs)) = some x := h
    obtain ⟨y, h4, h5⟩ := bindS h
    obtain ⟨ys, h6, h7⟩ := bindS h5
    simp only [List.length_cons, decRs_len h6]
theorem mapM_len {α β : Type} {f : α → Option β} : ∀ {l : List α} {r : List β}, l.mapM f = some r → r.length = l.length
  | [], r, h => by simp at h; subst h; rfl
  | a :: l, r, h => by
    simp only [List.mapM_cons, Option.bind_eq_bind, Option.pure_def] at h
    cases hx : f a with
    | none => simp [hx] at h
    | some b =>
      cases hl : l.mapM f with
      | none => simp [hx, hl] at h
      | some bs =>
        simp [hx, hl] at h
        subst h
        simp [mapM_len hl]
theorem kret_ok {C : Cx} {fn : Func} (hv : fn.results.toList = C.vars) {s : SS} {p : PS} (hs : Sim (clr s) p) {r : densR C.rs} (h : kretX C s = some r) : ∃ q, resAll C.P fn p = some q ∧ asData p.b q = toR C.rs r := by
  unfold kretX at h
  split at h
  · rename_i vs hvs
    obtain ⟨qs, h1, h2⟩ := resX_ok hs hvs
    have h3 := decRs_ok hs h2 h
    have h4 := decRs_len h
    have h5 := h2.len
    unfold resAll
    rw [hv, h1]
    match qs, h3, h5 with
    | [], h3, h5 =>
      refine ⟨.tup [], rfl, ?_⟩
      rcases toR_cases C.rs r with ⟨q, k1, _⟩ | k1
      · rw [k1] at h3; simp [asDatas] at h3
      · rw [k1, ← h3]; rfl
    | [q], h3, h5 =>
      refine ⟨q, rfl, ?_⟩
      have : C.rs.length = 1 := by rw [← h4, h5]; rfl
      rcases toR_cases C.rs r with ⟨q', k1, k2⟩ | k1
      · rw [k1] at h3
        rw [k2]
        simpa [asDatas] using h3
      · exfalso
        match C.rs, r, this, k1 with
        | [t], r, _, k1 => cases t <;> simp [toR, toPV] at k1
    | q :: q' :: qs, h3, h5 =>
      refine ⟨.tup (q :: q' :: qs), rfl, ?_⟩
      rcases toR_cases C.rs r with ⟨q2, k1, _⟩ | k1
      · rw [k1] at h3; simp [asDatas] at h3
      · rw [k1, ← h3]; rfl
  · cases h

/-! ### The code -/
/-- How code ends that the executor takes to res. -/
def PostE (C : Cx) (fn : Func) (W : List Nat) (s : SS) {ρ : Type} (k : Exit → SS → Option ρ) (kr : densR C.rs → Option ρ) (res : ρ) : Exit → PS → Prop
  | .ret, p' => ∃ r q, resAll C.P fn p' = some q ∧ asData p'.b q = toR C.rs r ∧ kr r = some res
  | e, p' => ∃ s', SimW s' p' ∧ Keep C.sc W s s' ∧ k e s' = some res
theorem memN_of {a b : List Nat} {i : Nat} (h : memN a i = true) : memN (a ++ b) i = true := by rw [memN_app, h]; rfl
theorem memN_of' {a b : List Nat} {i : Nat} (h : memN b i = true) : memN (a ++ b) i = true := by rw [memN_app, h]; simp
variable {C : Cx} {fn : Func}
theorem postE_e {W : List Nat} {s : SS} {ρ : Type} {k : Exit → SS → Option ρ} {kr : densR C.rs → Option ρ} {res : ρ} {e : Exit} {p : PS} (he : e ≠ .ret) (h : PostE C fn W s k kr res e p) : ∃ s', SimW s' p ∧ Keep C.sc W s s' ∧ k e s' = some res := by
  cases e <;> first | exact h | exact absurd rfl he
theorem postE_mk {W : List Nat} {s s' : SS} {ρ : Type} {k : Exit → SS → Option ρ} {kr : densR C.rs → Option ρ} {res : ρ} {e : Exit} {p : PS} (he : e ≠ .ret) (h1 : SimW s' p) (h2 : Keep C.sc W s s') (h3 : k e s' = some res) : PostE C fn W s k kr res e p := by
  cases e <;> first | exact ⟨s', h1, h2, h3⟩ | exact absurd rfl he
/-- That a body does what the executor takes it to. -/
def Does (C : Cx) (fn : Func) (c : Code) (W : List Nat) (body : (ρ : Type) → SS → (Exit → SS → Option ρ) → (densR C.rs → Option ρ) → Option ρ) : Prop :=
  ∀ (ρ : Type) (s : SS) (p : PS) (k : Exit → SS → Option ρ) (kr : densR C.rs → Option ρ) (res : ρ), PrOk s → SimW s p → body ρ s k kr = some res → PWP C.P C.n c (PostE C fn W s k kr res) p
theorem pr_sub {wr : List Nat} {ms : List Mod} {s s1 : SS} (hpr : PrOk s) (hk : Keep C.sc wr s s1) (hchk : modChk C.sc wr ms s.pr s1 = true) : ∀ t, memN s.pr t = true → memN (baseS C.sc wr ms s1).pr t = true := by
  intro t ht
  unfold modChk at hchk
  simp only [Bool.and_eq_true] at hchk
  obtain ⟨c1, c2, c3, c4⟩ := hchk
  rw [pr_spec]
  refine ⟨?_, ?_, hk.prOk hpr t (by rw [hk.pr]; exact ht)⟩
  · cases hm : memN (modBoxes ms) t with
    | false => rfl
    | true =>
      have := (modsOk_spec c1).2 t hm
      rw [hk.pr, ht] at this
      cases this
  · cases hm : memN C.sc t with
    | false => rfl
    | true =>
      have := disjN_spec c2 t hm
      rw [ht] at this
      cases this
mutual
theorem safeK_mono {pr pr' : List Nat} (h : ∀ t, memN pr t = true → memN pr' t = true) : ∀ v : SV, safeK pr v = true → safeK pr' v = true
  | .junk, _ => rfl
  | .d _, _ => rfl
  | .fe _, _ => rfl
  | .ptr _ _, _ => rfl
  | .row t, hs => h t hs
  | .re _ _ _, hs => by cases hs
  | .ag cs, hs => by simp only [safeK] at hs ⊢; exact safesK_mono h cs hs
  | .tup cs, hs => by simp only [safeK] at hs ⊢; exact safesK_mono h cs hs
theorem safesK_mono {pr pr' : List Nat} (h : ∀ t, memN pr t = true → memN pr' t = true) : ∀ cs : List SV, safesK pr cs = true → safesK pr' cs = true
  | [], _ => rfl
  | c :: cs, hs => by
    simp only [safesK, Bool.and_eq_true] at hs ⊢
    exact ⟨safeK_mono h c hs.1, safesK_mono h cs hs.2⟩
end
theorem keep_outer {wr : List Nat} {ms : List Mod} {s s1 s2 : SS} {oc : List Nat} (hk : Keep C.sc wr s s1) (hsub : ∀ t, memN s.pr t = true → memN (baseS C.sc wr ms s1).pr t = true) (hk2 : Keep C.sc wr (headS C.sc wr ms s1) s2) : Keep C.sc wr s ⟨s2.sl, s2.bx, s.pr, s.ro, oc⟩ := by
  refine ⟨rfl, rfl, fun t ht => (hk.bx t ht).trans (hk2.bx t (hsub t ht)), fun i hi hsf => ?_, fun t ht ty cs hb => ?_⟩
  · have e := hk.sl i hi hsf
    have := hk2.sl i hi (safeK_mono hsub _ (by show safeK s.pr (lkV s1.sl i) = true; rw [e]; exact hsf))
    exact this.trans e
  · obtain ⟨cs1, h1, h2⟩ := hk.st t ht ty cs hb
    obtain ⟨cs2, h3, h4⟩ := hk2.st t ht ty cs1 h1
    exact ⟨cs2, h3, h4.trans h2⟩
theorem prOk_clr {s : SS} (h : PrOk s) : PrOk (clr s) := h
theorem keep_clr {W : List Nat} {s s' : SS} (h : Keep C.sc W (clr s) s') : Keep C.sc W s s' := ⟨h.pr, h.ro, h.bx, h.sl, h.st⟩
theorem withJ_ok {c : Code} {wr : List Nat} {h : Hint} {body : (ρ : Type) → SS → (Exit → SS → Option ρ) → (densR C.rs → Option ρ) → Option ρ} (hb : Does C fn c wr body) : Does C fn c wr (withJ C wr h body) := by
  intro ρ s p k kr res hpr hs hx
  unfold withJ at hx
  split at hx
  · rename_i ms h'
    split at hx
    · cases hx
    · rename_i s1 hnil
      obtain ⟨hchk, hx⟩ := chk_some hx
      obtain ⟨st, h1, h2⟩ := bindS hx
      split at h2
      · rename_i s2 hput
        refine pwp_le (le_cut hs) ?_
        obtain ⟨p2, k1, k2, k3, k4⟩ := nilM_ok (sc := C.sc) (s := clr s) rfl (prOk_clr hpr) (simW_cut hs) hnil
        refine pwp_le k1 ?_
        have hk1 : Keep C.sc wr s s1 := keep_clr k3
        have hw : SimW (headS C.sc wr ms s1) p2 := ⟨k2.w.sl, k2.w.bx⟩
        refine pwp_conseq (hb _ (headS C.sc wr ms s1) p2 _ _ st (head_prOk ms s1) hw h1) fun e p' hq => ?_
        by_cases he : e = .ret
        · subst he
          obtain ⟨r, q, _, _, h⟩ := hq
          cases h
        · obtain ⟨s', m1, m2, m3⟩ := postE_e he hq
          cases e with
          | normal =>
            have m3 : packF ms s' = some st := m3
            unfold packF at m3
            split at m3
            · rename_i s'' hf
              obtain ⟨p'', n1, n2, n3⟩ := frzAll_ok (sc := C.sc) (m2.prOk (head_prOk ms s1)) m1 hf
              have hchk' : modChk C.sc wr ms s1.pr s1 = true := by rw [hk1.pr]; exact hchk
              obtain ⟨o1, o2, o3⟩ := meet_ok k2.w hchk' (m2.trans (n3 wr)) n2 m3 hput
              exact ⟨p'', n1, ⟨s2.sl, s2.bx, s.pr, s.ro, s.oc⟩, ⟨o1.sl, o1.bx⟩, keep_outer hk1 (pr_sub hpr hk1 hchk) o2, h2⟩
            · cases m3
          | ret => exact absurd rfl he
          | _ => cases m3
      · cases h2
  · exact hb ρ s p k kr res hpr hs hx
end Go.Proofs.Ytcphpbhngnnpmaa

/- The typed executor: a function's contract. -/
namespace Go.Proofs.Ytcphpbhngnnpmaa
open Go.RowKit

variable {C : Cx} {fn : Func}
theorem stOk_spec : ∀ {l : List Oper}, stOk l = true → ∀ o ∈ l, ∀ t x y, o.op = .store t x y → o.dst = none
  | [], _, o, ho, _, _, _, _ => by cases ho
  | x :: l, h, o, ho, t, a, b, hop => by
    simp only [stOk] at h
    rcases List.mem_cons.1 ho with rfl | ho
    · cases hd : o.dst with
      | none => rfl
      | some d => rw [hop, hd] at h; cases h
    · split at h
      · cases h
      · exact stOk_spec h o ho t a b hop
theorem clsOk_spec {s : SS} {p : PS} (hs : SimW s p) : ∀ {c : List (Nat × Option Nat)}, clsOkX s c = true → ClsOk c (cutP s p)
  | [], _, t, k, h => by cases h
  | (i, k0) :: c, h, t, k, hk => by
    simp only [clsOkX] at h
    split at h
    · rename_i h1
      simp only [clsOf] at hk
      split at hk
      · rename_i e
        subst e
        injection hk with hk
        subst hk
        show clsP k0 (cutV (lkV s.sl t) (p.t t)) = true
        have h2 := hs.sl t
        revert h1 h2
        generalize lkV s.sl t = v
        generalize p.t t = q
        intro h1 h2
        cases h2 with
        | junk q => cases k0 <;> rfl
        | tup => cases k0 <;> rfl
        | ptr t o ty cs hb =>
          cases k0 with
          | none => cases h1
          | some b =>
            have h1 : Nat.beq t b = true := h1
            show (t == b) = true
            rw [beq_spec] at h1
            simpa using h1
        | re => cases k0 with
          | none => rfl
          | some b => cases h1
        | fe => cases k0 with
          | none => rfl
          | some b => cases h1
        | d => cases k0 <;> cases h1
        | ag => cases k0 <;> cases h1
        | row => cases k0 <;> cases h1
      · exact clsOk_spec hs h t k hk
    · cases h
theorem runI_mono {P : Program} {ops : Array Oper} {K K' : PS → Prop} : ∀ {l : List Nat} {s : PS}, RunI P ops l s K → (∀ s, K s → K' s) → RunI P ops l s K'
  | [], s, h, hk => hk s h
  | i :: l, s, ⟨o, r, u, h1, h2, h3⟩, hk => ⟨o, r, u, h1, h2, runI_mono h3 hk⟩
theorem regX_ok (hT : TabOk C.P C.T) (hm : C.P.follows .mixedOrders = true) (id : Nat) (ops : Array Oper) (draw : Bool) : Does C fn (.region id ops draw) (dstsOf ops.toList) (fun _ s k _ => regX C id ops draw s fun s => k .normal s) := by
  intro ρ s p k kr res hpr hs h
  have ha : ops.toList.toArray = ops := by simp
  have hW : ∀ o ∈ ops.toList, ∀ d, o.dst = some d → memN (dstsOf ops.toList) d = true := fun o ho d hd => dstsOf_mem ho hd
  have hO : ∀ (j : Nat) (o : Oper), ops[j]? = some o → ∀ d, o.dst = some d → memN (dstsOf ops.toList) d = true := fun j o ho d hd => dstsOf_mem (by
    rw [Array.mem_toList_iff]
    exact Array.mem_of_getElem? ho) hd
  replace h : regX C id ops draw s (fun s => k .normal s) = some res := h
  unfold regX at h
  cases hf : frzAll (lkF C.fz id) s with
  | none => rw [hf] at h; cases h
  | some s0 =>
    rw [hf] at h
    obtain ⟨p1, k1, k2, k3⟩ := frzAll_ok (sc := C.sc) hpr hs hf
    refine pwp_le k1 (pwp_le (le_cut k2) ?_)
    have hs2 := simW_cut k2
    have hpr2 : PrOk ⟨s0.sl, s0.bx, s0.pr, s0.ro, []⟩ := (k3 []).prOk hpr
    have fin : ∀ p', Post C.sc (dstsOf ops.toList) ops.toList ⟨s0.sl, s0.bx, s0.pr, s0.ro, []⟩ (cutP s0 p1) (fun s => k .normal s) res p' → PostE C fn (dstsOf ops.toList) s k kr res .normal p' := by
      rintro p' ⟨s', m1, m2, m3, m4, _⟩
      exact ⟨s', m1.w, (k3 _).trans ⟨m2.pr, m2.ro, m2.bx, m2.sl, m2.st⟩, m4⟩
    simp only at h
    cases draw <;> simp only at h
    · obtain ⟨h1, h2⟩ := chk_some h
      rw [Bool.and_eq_true] at h1
      have hrun := runX_ok (q := true) (sc := C.sc) hT (ops := ops) 1000 [] ops.toList hW hO (stOk_spec h1.1) hpr2 hs2 h2
      have := pwp_regionQ (P := C.P) (n := C.n) (id := id) (Qs := PostE C fn (dstsOf ops.toList) s k kr res) (s := cutP s0 p1) h1.2 (by rw [ha]; exact runP_mono hrun fin)
      rw [ha] at this
      exact this
    · obtain ⟨h1, h2⟩ := chk_some h
      obtain ⟨h3, h4⟩ := chk_some h2
      rw [Bool.and_eq_true] at h1
      have hcl : ClsOk (clsX ⟨s0.sl, s0.bx, s0.pr, s0.ro, []⟩ ops.toList) (cutP s0 p1) := clsOk_spec (s := ⟨s0.sl, s0.bx, s0.pr, s0.ro, []⟩) ⟨k2.sl, k2.bx⟩ h1.2
      split at h4
      · have hrun := runX_ok (q := false) (sc := C.sc) hT (ops := ops) 1000 [] ops.toList hW hO (stOk_spec h1.1) hpr2 hs2 h4
        have := pwp_draw (P := C.P) (n := C.n) (id := id) (Qs := PostE C fn (dstsOf ops.toList) s k kr res) (s := cutP s0 p1) (clsX ⟨s0.sl, s0.bx, s0.pr, s0.ro, []⟩ ops.toList) hm (by rw [ha]; exact h3) hcl (by rw [ha]; exact runQ_false (runP_mono hrun fin))
        rw [ha] at this
        exact this
      · obtain ⟨h5, h6⟩ := chk_some h4
        rw [Bool.and_eq_true] at h5
        have hle := of_decide_eq_true h5.2
        have hsub1 : ∀ o ∈ ops.toList.take (tailOf ops), o ∈ ops.toList := fun o ho => List.mem_of_mem_take ho
        have hsub2 : ∀ o ∈ ops.toList.drop (tailOf ops), o ∈ ops.toList := fun o ho => List.mem_of_mem_drop ho
        have hrun1 := runX_ok (q := false) (sc := C.sc) hT (ops := ops) 1000 [] (ops.toList.take (tailOf ops)) (fun o ho => hW o (hsub1 o ho)) hO (fun o ho => stOk_spec h1.1 o (hsub1 o ho)) hpr2 hs2 h6
        have hrun : RunQ false C.P ops (ops.toList.take (tailOf ops)) (cutP s0 p1) fun p' => RunQ true C.P ops (ops.toList.drop (tailOf ops)) p' (PostE C fn (dstsOf ops.toList) s k kr res .normal) := by
          refine runP_mono hrun1 fun p' hp => ?_
          obtain ⟨s', m1, m2, m3, m4, _⟩ := hp
          have hrun2 := runX_ok (q := true) (sc := C.sc) hT (ops := ops) 1000 [] (ops.toList.drop (tailOf ops)) (fun o ho => hW o (hsub2 o ho)) hO (fun o ho => stOk_spec h1.1 o (hsub2 o ho)) m3 m1 m4
          refine runP_mono hrun2 fun p2 hp2 => ?_
          obtain ⟨s3, n1, n2, n3, n4, _⟩ := hp2
          exact ⟨s3, n1.w, (k3 _).trans ((show Keep C.sc (dstsOf ops.toList) s0 s' from ⟨m2.pr, m2.ro, m2.bx, m2.sl, m2.st⟩).trans n2), n4⟩
        have := pwp_drawT (P := C.P) (n := C.n) (id := id) (l := ops.toList) (Qs := PostE C fn (dstsOf ops.toList) s k kr res) (s := cutP s0 p1) (clsX ⟨s0.sl, s0.bx, s0.pr, s0.ro, []⟩ ops.toList) (tailOf ops) hle hm (by rw [ha]; exact h3) (by rw [ha]; exact h5.1) hcl (by
          rw [ha]
          have e1 : (ops.toList.take (tailOf ops)).length = tailOf ops := by rw [List.length_take]; exact Nat.min_eq_left (by simpa using hle)
          have e2 : (ops.toList.drop (tailOf ops)).length = ops.toList.length - tailOf ops := by simp
          rw [← e2]
          have r1 := runI_take (P := C.P) (ops := ops) (ops.toList.take (tailOf ops)) 0 (cutP s0 p1) (fun j hj => by
            rw [e1] at hj
            rw [List.getElem?_take, if_pos hj]
            simp) (runQ_false hrun)
          rw [e1] at r1
          refine runI_mono r1 fun p' hp => runT_of _ _ _ (fun j hj => by rw [List.getElem?_drop]; simp) hp)
        rw [ha] at this
        exact this
theorem simW_known {s : SS} {p : PS} (hs : SimW s p) {x : Operand} {b : Bool} (h : evX s x = .d (.bool b)) : SimW (known s x b) p := by
  unfold known
  split
  · rename_i i
    refine ⟨fun j => ?_, hs.bx⟩
    show VSim s.bx (lkV ((i, .d (.bool b)) :: s.sl) j) (p.t j)
    rw [lkV_cons]
    split
    · rename_i e
      subst e
      have := hs.sl j
      rw [show lkV s.sl j = .d (.bool b) from h] at this
      exact this
    · exact hs.sl j
  · exact hs
theorem keep_known {W : List Nat} {s : SS} {x : Operand} {b : Bool} (h : ∀ i, x = .tmp i → memN W i = true) : Keep C.sc W s (known s x b) := by
  unfold known
  split
  · rename_i i
    refine ⟨rfl, rfl, fun _ _ => .refl _, fun j hj _ => ?_, fun _ _ _ cs h => ⟨cs, h, rfl⟩⟩
    show lkV ((i, .d (.bool b)) :: s.sl) j = _
    rw [lkV_cons, if_neg (fun e => by rw [e, h i rfl] at hj; cases hj)]
  · exact .refl _ _
theorem known_prOk {s : SS} {x : Operand} {b : Bool} (h : PrOk s) : PrOk (known s x b) := by unfold known; split <;> exact h
theorem evX_simW {s : SS} {p : PS} (hs : SimW s p) (x : Operand) : VSim s.bx (evX s x) (ev p x) := by
  cases x with
  | tmp i => exact hs.sl i
  | const v => exact constV_sim v
  | global g => exact .junk _
  | func f => exact .junk _
theorem postE_wide {W W' : List Nat} {s s0 : SS} {ρ : Type} {k : Exit → SS → Option ρ} {kr : densR C.rs → Option ρ} {res : ρ} (hW : ∀ i, memN W i = true → memN W' i = true) (hk : Keep C.sc W' s0 s) {e : Exit} {p : PS} (h : PostE C fn W s k kr res e p) : PostE C fn W' s0 k kr res e p := by
  by_cases he : e = .ret
  · subst he; exact h
  · obtain ⟨s', h1, h2, h3⟩ := postE_e he h
    exact postE_mk he h1 (hk.trans (h2.wide hW)) h3
theorem loopO_step {σ τ : Type} {f : σ → Option (σ ⊕ τ)} {m : Nat} {st : σ} {out : τ} (h : loopO f m st = some out) : ∃ m', m = m' + 1 ∧ ((∃ st', f st = some (.inl st') ∧ loopO f m' st' = some out) ∨ f st = some (.inr out)) := by
  cases m with
  | zero => cases h
  | succ m =>
    refine ⟨m, rfl, ?_⟩
    unfold loopO at h
    split at h
    · cases h
    · rename_i st' hf; exact .inl ⟨st', hf, h⟩
    · rename_i r hf; injection h with h; subst h; exact .inr hf
/-- A loop, whatever it answers. -/
theorem loop_ok {c : Code} {ms : List Mod} {id : Nat} {τ : Type} {inr : modsT ms → τ} {ret : densR C.rs → Option τ} {step : modsT ms → Option (modsT ms ⊕ τ)} {body : (ρ : Type) → SS → (Exit → SS → Option ρ) → (densR C.rs → Option ρ) → Option ρ} (hb : Does C fn c (wrC c) body)
    {s0 : SS} (hstep : step = fun st => match putMs ms st (baseS C.sc (wrC c) ms s0) with
      | none => none
      | some sh => body (modsT ms ⊕ τ) sh (fun e s' => match e with
        | .normal => Option.bind (packF ms s') fun st' => some (.inl st')
        | .exit id' => (match Nat.beq id' id with | true => Option.bind (packF ms s') fun st' => some (.inr (inr st')) | false => none)
        | _ => none) (fun r => (ret r).map .inr))
    {st0 : modsT ms} {p : PS} (hs0 : SimW s0 p) (hchk : modChk C.sc (wrC c) ms s0.pr s0 = true) (hpack : packM s0 ms = some st0) {out : τ} (hl : loopO step rounds st0 = some out)
    (hput : ∀ st, inr st = out → ∃ s2, putMs ms st (baseS C.sc (wrC c) ms s0) = some s2) {Q : Exit → PS → Prop} (hexit : ∀ st s2 p', inr st = out → putMs ms st (baseS C.sc (wrC c) ms s0) = some s2 → SimW s2 p' → Keep C.sc (wrC c) (headS C.sc (wrC c) ms s0) s2 → Q (.exit id) p')
    (hret : ∀ r q p', ret r = some out → resAll C.P fn p' = some q → asData p'.b q = toR C.rs r → Q .ret p') : PWP C.P C.n (.loop c) Q p := by
  have put_of : ∀ {m st out}, loopO step m st = some out → ∃ sh, putMs ms st (baseS C.sc (wrC c) ms s0) = some sh := by
    intro m st out h
    obtain ⟨m', _, h⟩ := loopO_step h
    have : ∃ r, step st = some r := by rcases h with ⟨st', h, _⟩ | h <;> exact ⟨_, h⟩
    obtain ⟨r, hr⟩ := this
    rw [hstep] at hr
    simp only at hr
    split at hr
    · cases hr
    · rename_i sh hsh; exact ⟨sh, hsh⟩
  refine pwp_loopW (ks := []) (bs := []) (fun q m => ∃ st sh, putMs ms st (baseS C.sc (wrC c) ms s0) = some sh ∧ SimW sh q ∧ Keep C.sc (wrC c) (headS C.sc (wrC c) ms s0) sh ∧ loopO step m st = some out) rounds ?_ ?_
  · obtain ⟨sh, hsh⟩ := put_of hl
    obtain ⟨o1, o2, o3⟩ := meet_ok hs0 hchk (.refl _ _) (s' := headS C.sc (wrC c) ms s0) ⟨hs0.sl, hs0.bx⟩ (show packM (headS C.sc (wrC c) ms s0) ms = some st0 from (by
      have : ∀ (l : List Mod) (s s' : SS), s.sl = s'.sl → s.bx = s'.bx → packM s l = packM s' l := by
        intro l s s' h1 h2
        have cells : ∀ (rows : List (Nat × Nat × Nat × Nat × Ty)) (cs : List SV) (j : Nat), cellsOf s rows j cs = cellsOf s' rows j cs := by
          intro rows cs
          induction cs with
          | nil => intro j; rfl
          | cons c cs ih => intro j; simp only [cellsOf, h2, ih]
        have one : ∀ m : Mod, getM s m = getM s' m := by
          intro m
          cases m <;> simp only [getM, h1, h2, cells]
        induction l with
        | nil => rfl
        | cons m l ih =>
          cases l with
          | nil => exact one m
          | cons m' l => simp only [packM, one, ih]
      exact (this ms (headS C.sc (wrC c) ms s0) s0 rfl rfl).trans hpack)) hsh
    exact ⟨st0, sh, hsh, o1, o2, hl⟩
  · rintro q m ⟨st, sh, hsh, hq, hk, hlo⟩
    obtain ⟨m', rfl, hcase⟩ := loopO_step hlo
    have hrun : ∃ fr, step st = some fr ∧ ((∃ st', fr = .inl st' ∧ loopO step m' st' = some out) ∨ fr = .inr out) := by
      rcases hcase with ⟨st', h1, h2⟩ | h1
      · exact ⟨_, h1, .inl ⟨st', rfl, h2⟩⟩
      · exact ⟨_, h1, .inr rfl⟩
    obtain ⟨fr, hfr, hcase⟩ := hrun
    have hbody : body (modsT ms ⊕ τ) sh (fun e s' => match e with
        | .normal => Option.bind (packF ms s') fun st' => some (.inl st')
        | .exit id' => (match Nat.beq id' id with | true => Option.bind (packF ms s') fun st' => some (.inr (inr st')) | false => none)
        | _ => none) (fun r => (ret r).map .inr) = some fr := by
      rw [hstep] at hfr
      simp only [hsh] at hfr
      exact hfr
    have hprh : PrOk sh := hk.prOk (head_prOk ms s0)
    have meet : ∀ {s' : SS} {p' : PS} {st' : modsT ms} {s2 : SS}, SimW s' p' → Keep C.sc (wrC c) sh s' → packF ms s' = some st' → putMs ms st' (baseS C.sc (wrC c) ms s0) = some s2 → ∃ p'', Le p' p'' ∧ SimW s2 p'' ∧ Keep C.sc (wrC c) (headS C.sc (wrC c) ms s0) s2 := by
      intro s' p' st' s2 m1 m2 m3 m4
      unfold packF at m3
      split at m3
      · rename_i s'' hf
        obtain ⟨p'', n1, n2, n3⟩ := frzAll_ok (sc := C.sc) (m2.prOk hprh) m1 hf
        obtain ⟨o1, o2, o3⟩ := meet_ok hs0 hchk ((hk.trans m2).trans (n3 (wrC c))) n2 m3 m4
        exact ⟨p'', n1, o1, o2⟩
      · cases m3
    refine pwp_conseq (hb _ sh q _ _ fr hprh hq hbody) fun e p' hpost => ?_
    by_cases he : e = .ret
    · subst he
      obtain ⟨r, qv, h1, h2, h3⟩ := hpost
      rw [Option.map_eq_some_iff] at h3
      obtain ⟨v, h4, h5⟩ := h3
      rcases hcase with ⟨st', rfl, _⟩ | rfl
      · cases h5
      · injection h5 with h5
        subst h5
        exact ⟨p', .refl _, hret r qv p' h4 h1 h2⟩
    · obtain ⟨s', m1, m2, m3⟩ := postE_e he hpost
      cases e with
      | normal =>
        obtain ⟨st', m4, m5⟩ := bindS m3
        injection m5 with m5
        rcases hcase with ⟨st2, h1, h2⟩ | h1
        · rw [← m5] at h1
          injection h1 with h1
          subst h1
          obtain ⟨sh', hsh'⟩ := put_of h2
          obtain ⟨p'', n1, n2, n3⟩ := meet m1 m2 m4 hsh'
          exact ⟨p'', n1, p'', fun _ _ _ _ _ h => h, m', ⟨st', sh', hsh', n2, n3, h2⟩, Nat.lt_succ_self _⟩
        · rw [← m5] at h1; cases h1
      | exit id' =>
        replace m3 : (match Nat.beq id' id with | true => Option.bind (packF ms s') fun st' => some (.inr (inr st')) | false => none) = some fr := m3
        split at m3
        · rename_i hid
          rw [beq_spec] at hid
          have hid := of_decide_eq_true hid
          subst hid
          obtain ⟨st', m4, m5⟩ := bindS m3
          injection m5 with m5
          rcases hcase with ⟨st2, h1, h2⟩ | h1
          · rw [← m5] at h1; cases h1
          · rw [← m5] at h1
            injection h1 with h1
            obtain ⟨s2, hs2⟩ := hput st' h1
            obtain ⟨p'', n1, n2, n3⟩ := meet m1 m2 m4 hs2
            exact ⟨p'', n1, hexit st' s2 p'' h1 hs2 n2 n3⟩
        · cases m3
      | ret => exact absurd rfl he
      | _ => cases m3
end Go.Proofs.Ytcphpbhngnnpmaa
