/- Texts PmL, PmM, PmN, PmO, PmT, PmS, PmX, GeA, GeS, GeL, Va, Vs, Vb, Vc, Vd, in one. -/
import Derived.Test.YtcphpbhngnnpmaaMA
import Derived.Orders
import Derived.IntWalk
/- The pure machine: regions whose order is drawn. -/
namespace Go.Proofs.Ytcphpbhngnnpmaa
open Go.RowKit

/-- What an operation does with boxes: nothing (0), reads (1), lays a new one (2), writes (3). -/
def okind (o : Oper) : Nat :=
  match o.op with
  | .move _ | .assign _ | .pick .. | .build .. | .binOp .. | .unOp .. | .slice .. | .fieldAddr .. | .field .. | .extract .. | .index .. => 0
  | .load .. | .indexAddr .. | .convert .. => 1
  | .alloc _ | .box .. | .buildSlice .. => 2
  | .call c => match c.callee with
    | .value (.func _) => 1
    | .builtin .len | .builtin .min | .builtin .max => 0
    | _ => 3
  | _ => 3
def indepO (ops : Array Oper) (x y : Oper) : Bool := x.apart ops y && (okind x == 0 || okind y == 0 || (okind x != 3 && okind y != 3))
/-- An append; a load. -/
def isApp (o : Oper) : Bool := match o.op with
  | .call c => (match c.callee with
    | .builtin .append => true
    | _ => false)
  | _ => false
def isLd (o : Oper) : Bool := match o.op with
  | .load .. => true
  | _ => false
/-- What slots of a region hold: an address in box b (some b), or in a row or in data (none). -/
def clsOf : List (Nat × Option Nat) → Nat → Option (Option Nat)
  | [], _ => none
  | (t, k) :: l, i => if i = t then some k else clsOf l i
def isSt (o : Oper) : Bool := match o.op with
  | .store .. => true
  | _ => false
def addrOp (o : Oper) : Option Nat := match o.op with
  | .load _ (.tmp t) => some t
  | .store _ (.tmp t) _ => some t
  | _ => none
/-- x stores into a known box, which y neither reads nor writes. -/
def offB (c : List (Nat × Option Nat)) (x y : Oper) : Bool :=
  isSt x && (match (addrOp x).bind (clsOf c) with
    | some (some b) => (!isLd y && !isSt y) || (match (addrOp y).bind (clsOf c) with
      | some (some b') => b' != b
      | some none => isLd y
      | none => false)
    | _ => false)
/-- x loads from a known box, y appends. -/
def offA (c : List (Nat × Option Nat)) (x y : Oper) : Bool := isLd x && isApp y && (match (addrOp x).bind (clsOf c) with
  | some (some _) => true
  | _ => false)
def indepB (c : List (Nat × Option Nat)) (ops : Array Oper) (x y : Oper) : Bool := (indepO ops x y || (x.apart ops y && isApp x && (isLd y || okind y == 2)) || (x.apart ops y && (offB c x y || offB c y x))) || (x.apart ops y && offA c x y)
/-- Slots of a class are written by what keeps to it. -/
def clsB (c : List (Nat × Option Nat)) (o : Oper) : Bool := match o.dst.bind (clsOf c) with
  | none => true
  | some k => match o.op with
    | .fieldAddr _ (.tmp t) _ => clsOf c t == some k
    | .indexAddr .. => k == none
    | .alloc _ => (k.map some) == some o.dst
    | .box .. => (k.map some) == some o.dst
    | _ => false
/-- The slots hold what their classes say, or nothing. -/
def clsP : Option Nat → PV → Bool
  | _, .junk => true
  | _, .tup _ => true
  | some b, .ptr t _ => t == b
  | none, .fe _ => true
  | none, .re .. => true
  | _, _ => false
def ClsOk (c : List (Nat × Option Nat)) (s : PS) : Prop := ∀ t k, clsOf c t = some k → clsP k (s.t t) = true

/-- b' has all that b has. -/
def More (b b' : Nat → Option Box) : Prop := ∀ t B, b t = some B → b' t = some B
def ReadSame (b b' : Nat → Option Box) (p : PV) : Prop := addrP b' p = addrP b p ∧ asData b' p = asData b p ∧ ∀ t m, p = .row t m → b' t = b t

section
variable {P : Program} {ρ ρ' : Nat → Value} {b b' : Nat → Option Box} {w w' w0 : World} {F F' F0 : Nat → Prop} {n : Nat} {ops : Array Oper} {Q : Exit → Act → World → Prop}

theorem readSame_of {x : Value} {p : PV} (h : PRep ρ b w F x p) (hm : More b b') : ReadSame b b' p := by
  have key : asData b' p = asData b p := by
    induction h with
    | junk | d | fe | ptr | re => rfl
    | ag xs cs hl h1 hr ih =>
      simp only [Go.Proofs.Ytcphpbhngnnpmaa.asData]
      congr 1
      apply List.ext_getElem?
      intro j
      have len := asDatas_len
      by_cases hj : j < cs.length
      · have e : ∀ b : Nat → Option Box, (asDatas b cs)[j]? = some (asData b cs[j]) := fun b => by
          cases hx : (asDatas b cs)[j]? with
          | none => rw [List.getElem?_eq_none_iff, len] at hx; omega
          | some y =>
            obtain ⟨d, h1, rfl⟩ := asDatas_get b cs j y hx
            rw [List.getElem?_eq_getElem hj] at h1
            injection h1 with h1
            rw [h1]
        rw [e, e, ih j (xs[j]'(by omega)) cs[j] (by simp) (List.getElem?_eq_getElem hj)]
      · rw [List.getElem?_eq_none (by rw [len]; omega), List.getElem?_eq_none (by rw [len]; omega)]
    | tup xs cs hl hr ih =>
      simp only [Go.Proofs.Ytcphpbhngnnpmaa.asData]
      congr 1
      apply List.ext_getElem?
      intro j
      have len := asDatas_len
      by_cases hj : j < cs.length
      · have e : ∀ b : Nat → Option Box, (asDatas b cs)[j]? = some (asData b cs[j]) := fun b => by
          cases hx : (asDatas b cs)[j]? with
          | none => rw [List.getElem?_eq_none_iff, len] at hx; omega
          | some y =>
            obtain ⟨d, h1, rfl⟩ := asDatas_get b cs j y hx
            rw [List.getElem?_eq_getElem hj] at h1
            injection h1 with h1
            rw [h1]
        rw [e, e, ih j (xs[j]'(by omega)) cs[j] (by simp) (List.getElem?_eq_getElem hj)]
      · rw [List.getElem?_eq_none (by rw [len]; omega), List.getElem?_eq_none (by rw [len]; omega)]
    | row t n A c e k es hb hn hc hA hρ => simp only [Go.Proofs.Ytcphpbhngnnpmaa.asData, hb, hm t _ hb]
  refine ⟨?_, key, fun t m e => ?_⟩
  · cases h with
    | junk | d | fe | ag | tup | row => rfl
    | ptr t off g ty cs hb hρ => simp only [addrP, hb, hm t _ hb]
    | re t m i off a e k es hb hn hi hρ => simp only [addrP, hb, hm t _ hb]
  · subst e
    cases h with
    | row _ _ A c e k es hb hn hc hA hρ => rw [hb, hm t _ hb]
theorem asDatas_same : ∀ {ps : List PV}, (∀ p ∈ ps, asData b' p = asData b p) → asDatas b' ps = asDatas b ps
  | [], _ => rfl
  | p :: ps, h => by simp only [asDatas]; rw [h p (by simp), asDatas_same (fun q hq => h q (by simp [hq]))]

/-- The operands' values are the same. -/
def EvSame (o : Oper) (s s' : PS) : Prop := ∀ x ∈ o.op.operands, ev s' x = ev s x
theorem evSame_of {o : Oper} {s s' : PS} (h : ∀ t ∈ o.looksAt ops, s'.t t = s.t t) : EvSame o s s' := by
  intro x hx
  cases x with
  | tmp t =>
    refine h t ?_
    unfold Oper.looksAt
    refine List.mem_append_left _ ?_
    rw [List.mem_filterMap]
    exact ⟨.tmp t, by simpa using hx, rfl⟩
  | _ => rfl
theorem guardB_same {o : Oper} {s s' : PS} (h : ∀ t ∈ o.looksAt ops, s'.t t = s.t t) : guardB ops o s' = guardB ops o s := by
  unfold guardB
  split
  · rfl
  · rename_i j want hg
    split
    · rename_i g hgd
      rw [h g (by unfold Oper.looksAt; refine List.mem_append_right _ ?_; rw [hg]; simp [hgd])]
    · rfl
theorem eff_none {o : Oper} {s : PS} {r : PV} {u : Option (Nat × Box)} (hk : okind o = 0 ∨ okind o = 1) (h : eff P o s = some (r, u)) : u = none := by
  unfold eff at h
  unfold okind at hk
  split at h <;> rename_i ho <;> simp only [ho] at hk
  case h_3 => split at h <;> first | (injection h with h; injection h with e1 e2; exact e2.symm) | cases h
  case h_19 =>
    split at h
    · rename_i c f hf
      rw [hf] at hk
      unfold effBuiltin at h
      split at h <;> first | (simp at hk; done) | (split at h <;> first | (rw [Option.map_eq_some_iff] at h; obtain ⟨_, _, h2⟩ := h; injection h2 with e1 e2; exact e2.symm) | cases h) | cases h
    · cases h
  all_goals first
    | (simp at hk; done)
    | (injection h with h; injection h with e1 e2; exact e2.symm)
    | (rw [Option.map_eq_some_iff] at h; obtain ⟨_, _, h2⟩ := h; injection h2 with e1 e2; exact e2.symm)
    | cases h
/-- What an operation that lays a box lays. -/
theorem eff_new {o : Oper} {s : PS} {r : PV} {u : Option (Nat × Box)} (hk : okind o = 2) (h : eff P o s = some (r, u)) : ∃ d B, o.dst = some d ∧ s.b d = none ∧ u = some (d, B) := by
  unfold eff at h
  unfold okind at hk
  split at h <;> rename_i ho <;> simp only [ho] at hk
  case h_19 => split at hk <;> simp at hk
  case h_4 =>
    unfold effAlloc at h
    split at h
    · rename_i t i hd _
      split at h
      · rename_i hb
        injection h with h
        injection h with e1 e2
        exact ⟨t, _, by assumption, hb, e2.symm⟩
      · cases h
    · cases h
  case h_5 =>
    unfold effBox at h
    split at h
    · rename_i t i hd _
      split at h
      · rename_i hb
        injection h with h
        injection h with e1 e2
        exact ⟨t, _, by assumption, hb, e2.symm⟩
      · cases h
    · cases h
  case h_7 =>
    unfold effBuildSlice at h
    split at h
    · rename_i d e hd _
      split at h
      · rename_i i hti hb
        split at h
        · split at h
          · split at h
            · injection h with h
              injection h with e1 e2
              exact ⟨d, _, by assumption, hb, e2.symm⟩
            · cases h
          · cases h
        · cases h
      · cases h
    · cases h
  all_goals first | (simp at hk; done) | cases h
theorem mem_ops_1 {α : Type} {x : α} : x ∈ #[x] := by simp
theorem parts_same {o : Oper} {s s' : PS} {t : TypeId} {ps : Array (Nat × Operand)} (ho : o.op = .build t ps ∨ ∃ m, o.op = .buildSlice t m ps) (he : EvSame o s s') : (ps.toList.map fun (i, x) => (i, ev s' x)) = (ps.toList.map fun (i, x) => (i, ev s x)) := by
  apply List.map_congr_left
  rintro ⟨i, x⟩ hx
  have : x ∈ o.op.operands := by
    rcases ho with ho | ⟨m, ho⟩ <;> (rw [ho]; simp only [Op.operands, List.mem_toArray, List.mem_map]; exact ⟨(i, x), hx, rfl⟩)
  simp only [he x this]
theorem args_same {o : Oper} {s s' : PS} {c : Call} (ho : o.op = .call c) (he : EvSame o s s') : c.args.toList.map (ev s') = c.args.toList.map (ev s) := by
  apply List.map_congr_left
  intro x hx
  exact he x (by rw [ho]; simp [Op.operands, Call.operands]; exact .inr (by simpa using hx))
theorem effSlice_b (b b' : Nat → Option Box) (t : TypeId) (p : PV) (lo hi : Option PV) : effSlice P b' t p lo hi = effSlice P b t p lo hi := by
  unfold effSlice
  split
  · split
    · rename_i dd _
      have : asSl b' (.d dd) = asSl b (.d dd) := by
        unfold asSl
        cases dd with
        | sl es => rfl
        | v x => cases x <;> first | rfl | (rename_i A _ _; cases A <;> rfl)
      rw [this]
    · rfl
  · rfl
  · rfl
/-- What an operation of the first kinds does hangs on its operands, and on the boxes that it reads. -/
theorem eff_same {o : Oper} {s s' : PS} (he : EvSame o s s') (hk : okind o = 0 ∨ (okind o = 1 ∧ ∀ x ∈ o.op.operands, ReadSame s.b s'.b (ev s x)) ∨ (okind o = 2 ∧ ∀ d, o.dst = some d → s'.b d = s.b d)) : eff P o s' = eff P o s := by
  unfold eff
  unfold okind at hk
  unfold EvSame at he
  split <;> rename_i ho <;> simp only [ho] at hk
  case h_1 => rw [he _ (by rw [ho]; simp [Op.operands])]
  case h_2 => rw [he _ (by rw [ho]; simp [Op.operands])]
  case h_3 => rw [he _ (by rw [ho]; simp [Op.operands]), he _ (by rw [ho]; simp [Op.operands]), he _ (by rw [ho]; simp [Op.operands])]
  case h_4 =>
    rcases hk with hk | ⟨hk, _⟩ | ⟨_, hd⟩
    · simp at hk
    · simp at hk
    · unfold effAlloc
      split
      · rename_i t i hdd _
        rw [hd t (by assumption)]
      · rfl
  case h_5 =>
    rcases hk with hk | ⟨hk, _⟩ | ⟨_, hd⟩
    · simp at hk
    · simp at hk
    · rw [he _ (by rw [ho]; simp [Op.operands])]
      unfold effBox
      split
      · rename_i t i hdd _
        rw [hd t (by assumption)]
      · rfl
  case h_6 => rw [parts_same (.inl ho) he]
  case h_7 =>
    rcases hk with hk | ⟨hk, _⟩ | ⟨_, hd⟩
    · simp at hk
    · simp at hk
    · rw [parts_same (.inr ⟨_, ho⟩) he]
      unfold effBuildSlice
      split
      · rename_i t i hdd _
        rw [hd t (by assumption)]
      · rfl
  case h_8 =>
    rcases hk with hk | ⟨_, hd⟩ | ⟨hk, _⟩
    · simp at hk
    · rw [he _ (by rw [ho]; simp [Op.operands])]
      unfold effLoad
      rw [(hd _ mem_ops_1).1]
    · simp at hk
  case h_9 => rcases hk with hk | ⟨hk, _⟩ | ⟨hk, _⟩ <;> simp at hk
  case h_10 => rw [he _ (by rw [ho]; simp [Op.operands]), he _ (by rw [ho]; simp [Op.operands])]
  case h_11 => rw [he _ (by rw [ho]; simp [Op.operands])]
  case h_12 =>
    rename_i src dst x
    rcases hk with hk | ⟨_, hd⟩ | ⟨hk, _⟩
    · simp at hk
    · have e1 : ev s' x = ev s x := he _ (by rw [ho]; simp [Op.operands])
      rw [e1]
      have hr := (hd x (by simp [Op.operands])).2.2
      congr 1
      unfold effConvB
      have : asSl s'.b (ev s x) = asSl s.b (ev s x) := by
        cases hp : ev s x with
        | row t m => simp only [asSl]; rw [hr t m hp]
        | d dd =>
          cases dd with
          | sl es => rfl
          | v z => cases z <;> first | rfl | (rename_i A _ _; cases A <;> rfl)
        | _ => rfl
      rw [this]
    · simp at hk
  case h_13 =>
    rename_i t x lo hi
    have e1 : ev s' x = ev s x := he _ (by rw [ho]; simp [Op.operands])
    have e2 : lo.map (ev s') = lo.map (ev s) := by
      cases lo with
      | none => rfl
      | some y => simp only [Option.map_some]; rw [he y (by rw [ho]; simp [Op.operands])]
    have e3 : hi.map (ev s') = hi.map (ev s) := by
      cases hi with
      | none => rfl
      | some y => simp only [Option.map_some]; rw [he y (by rw [ho]; simp [Op.operands])]
    rw [e1, e2, e3, effSlice_b s.b s'.b]
  case h_14 => rw [he _ (by rw [ho]; simp [Op.operands])]
  case h_15 => rw [he _ (by rw [ho]; simp [Op.operands])]
  case h_16 =>
    rename_i t x i
    rcases hk with hk | ⟨_, hd⟩ | ⟨hk, _⟩
    · simp at hk
    · have e1 : ev s' x = ev s x := he _ (by rw [ho]; simp [Op.operands])
      have e2 : ev s' i = ev s i := he _ (by rw [ho]; simp [Op.operands])
      rw [e1, e2]
      have hr := (hd x (by simp [Op.operands])).2.2
      congr 1
      unfold effIndexAddr
      split
      · split
        · split
          · split
            · rfl
            · rename_i t' m hp
              rw [hr t' m hp]
            · rfl
          · rfl
        · rfl
      · rfl
    · simp at hk
  case h_17 => rw [he _ (by rw [ho]; simp [Op.operands])]
  case h_18 => rw [he _ (by rw [ho]; simp [Op.operands]), he _ (by rw [ho]; simp [Op.operands])]
  case h_19 =>
    rename_i c
    rw [args_same ho he]
    split
    · rename_i f hf
      simp only [hf] at hk
      cases f <;> first
        | rfl
        | (rcases hk with hk | ⟨hk, _⟩ | ⟨hk, _⟩ <;> simp at hk)
    · rfl
  case h_20 => rfl
end
end Go.Proofs.Ytcphpbhngnnpmaa

/- The pure machine: regions whose order is drawn come to what the text's order comes to. -/
namespace Go.Proofs.Ytcphpbhngnnpmaa
open Go.RowKit

section
variable {P : Program} {ρ ρ' : Nat → Value} {b b' : Nat → Option Box} {w w' w0 : World} {F F' F0 : Nat → Prop} {n : Nat} {ops : Array Oper} {Q : Exit → Act → World → Prop}

theorem callOf_kind {o : Oper} {f : FuncId} {xs : List Operand} (h : callOf o = some (f, xs)) : okind o = 1 ∧ ∀ x ∈ xs, x ∈ o.op.operands := by
  unfold callOf at h
  split at h
  · rename_i c ho
    split at h
    · rename_i f' hf
      injection h with h
      injection h with e1 e2
      subst e1 e2
      refine ⟨by unfold okind; simp only [ho, hf], fun x hx => ?_⟩
      rw [ho]
      simp only [Op.operands, Call.operands]
      exact Array.mem_append_right _ (by simpa using hx)
    · cases h
  · cases h
theorem callOf_none {o : Oper} {s : PS} {r : PV} {u : Option (Nat × Box)} (h : EffW P o s r u) : (callOf o = none ∧ eff P o s = some (r, u)) ∨ (okind o = 1 ∧ u = none) := by
  unfold EffW at h
  split at h
  · rename_i f xs hc
    exact .inr ⟨(callOf_kind hc).1, h.1⟩
  · rename_i hc
    exact .inl ⟨hc, h⟩
theorem effW_none {o : Oper} {s : PS} {r : PV} {u : Option (Nat × Box)} (hk : okind o = 0 ∨ okind o = 1) (h : EffW P o s r u) : u = none := by
  rcases callOf_none h with ⟨_, h⟩ | ⟨_, h⟩
  · exact eff_none hk h
  · exact h
theorem effW_new {o : Oper} {s : PS} {r : PV} {u : Option (Nat × Box)} (hk : okind o = 2) (h : EffW P o s r u) : ∃ d B, o.dst = some d ∧ s.b d = none ∧ u = some (d, B) := by
  rcases callOf_none h with ⟨_, h⟩ | ⟨h1, _⟩
  · exact eff_new hk h
  · rw [hk] at h1; cases h1
theorem effW_same {o : Oper} {s s' : PS} {r : PV} {u : Option (Nat × Box)} (he : EvSame o s s') (hk : okind o = 0 ∨ (okind o = 1 ∧ ∀ x ∈ o.op.operands, ReadSame s.b s'.b (ev s x)) ∨ (okind o = 2 ∧ ∀ d, o.dst = some d → s'.b d = s.b d)) : EffW P o s' r u ↔ EffW P o s r u := by
  unfold EffW
  split
  · rename_i f xs hc
    obtain ⟨hk1, hx⟩ := callOf_kind hc
    have e1 : xs.map (ev s') = xs.map (ev s) := List.map_congr_left fun x h => he x (hx x h)
    have e2 : asDatas s'.b (xs.map (ev s)) = asDatas s.b (xs.map (ev s)) := by
      refine asDatas_same fun p hp => ?_
      rw [List.mem_map] at hp
      obtain ⟨x, h, rfl⟩ := hp
      rcases hk with hk | ⟨_, hk⟩ | ⟨hk, _⟩
      · rw [hk1] at hk; cases hk
      · exact (hk x (hx x h)).2.1
      · rw [hk1] at hk; cases hk
    unfold CallOk
    rw [e1, e2]
  · rw [eff_same he hk]

theorem eff_sameB {o : Oper} {s s' : PS} (he : EvSame o s s') (hb : s'.b = s.b) : eff P o s' = eff P o s := by
  have hk3 : okind o = 0 ∨ okind o = 1 ∨ okind o = 2 ∨ okind o = 3 := by
    unfold okind; split <;> first | simp; done | (split <;> simp)
  rcases hk3 with h | h | h | h
  · exact eff_same he (.inl h)
  · exact eff_same he (.inr (.inl ⟨h, fun x _ => ⟨by rw [hb], by rw [hb], fun _ _ _ => by rw [hb]⟩⟩))
  · exact eff_same he (.inr (.inr ⟨h, fun d _ => by rw [hb]⟩))
  · unfold eff
    unfold okind at h
    split <;> rename_i ho <;> simp only [ho] at h
    case h_9 =>
      rename_i t x y
      have e1 : ev s' x = ev s x := he _ (by rw [ho]; simp [Op.operands])
      have e2 : ev s' y = ev s y := he _ (by rw [ho]; simp [Op.operands])
      rw [e1, e2, hb]
    case h_19 => rw [args_same ho he, hb]
    case h_20 => rfl
    all_goals simp at h
theorem effW_sameB {o : Oper} {s s' : PS} {r : PV} {u : Option (Nat × Box)} (he : EvSame o s s') (hb : s'.b = s.b) : EffW P o s' r u ↔ EffW P o s r u := by
  unfold EffW
  split
  · rename_i f xs hc
    obtain ⟨hk1, hx⟩ := callOf_kind hc
    have e1 : xs.map (ev s') = xs.map (ev s) := List.map_congr_left fun x h => he x (hx x h)
    rw [e1, hb]
  · rw [eff_sameB he hb]
/-- A state that some frame and world show. -/
def Rpr (n : Nat) (s : PS) : Prop := ∃ w0 F0 a w, Conc n w0 F0 s a w
theorem Rpr.step {o : Oper} {s : PS} {r : PV} {u : Option (Nat × Box)} (h : Rpr n s) (he : Eff P ops o s r u) (hd : ∀ d, o.dst = some d → d < n) : Rpr n (s.upd o.dst r u) := by
  obtain ⟨w0, F0, a, w, h1, h2, ρ, F, hi, hev⟩ := h
  have hev' := ev_rep hev
  unfold Eff at he
  split at he
  · unfold EffW at he
    split at he
    · rename_i f xs hc
      obtain ⟨rfl, hcall⟩ := he
      unfold callOf at hc
      split at hc
      · rename_i c ho
        split at hc
        · rename_i f' hf
          injection hc with hc
          injection hc with e1 e2
          subst e1 e2
          obtain ⟨_, hcalls⟩ := call_ok (P := P) hi (evs_reps hev' c.args) hcall
          obtain ⟨e, w', _, ⟨v, F', rfl, k1, k2, k3⟩, _⟩ := hcalls []
          exact ⟨w0, F0, _, w', Conc.put (u := none) h1 h2 hev hd k1 k2 k3⟩
        · cases hc
      · cases hc
    · obtain ⟨v, w', ρ', F', _, k1, k2, k3⟩ := eff_ok hi hev' he
      exact ⟨w0, F0, _, w', Conc.put h1 h2 hev hd k1 k2 k3⟩
  · obtain ⟨rfl, rfl⟩ := he
    exact ⟨w0, F0, _, w, Conc.put (v := undef) h1 h2 hev hd hi (Stp.refl _ _ _ _) (.tup #[] [] rfl (fun j x c h _ => by simp at h))⟩
  · exact he.elim

theorem upd_comm {s : PS} {d d' : Option Nat} {r r' : PV} {u u' : Option (Nat × Box)} (hd : ∀ x, d = some x → d' ≠ some x) (hu : ∀ x B y B', u = some (x, B) → u' = some (y, B') → x ≠ y) : (s.upd d r u).upd d' r' u' = (s.upd d' r' u').upd d r u := by
  unfold PS.upd
  congr 1
  · funext i
    show (if d' = some i then r' else if d = some i then r else s.t i) = (if d = some i then r else if d' = some i then r' else s.t i)
    by_cases h : d = some i
    · rw [if_neg (hd i h), if_pos h, if_pos h]
    · rw [if_neg h, if_neg h]
  · funext i
    cases u with
    | none => rfl
    | some xB =>
      obtain ⟨x, B⟩ := xB
      cases u' with
      | none => rfl
      | some yB =>
        obtain ⟨y, B'⟩ := yB
        have := hu x B y B' rfl rfl
        unfold bupd
        by_cases h1 : i = x
        · subst h1
          simp [this]
        · simp [h1]
theorem upd_t {s : PS} {d : Option Nat} {r : PV} {u : Option (Nat × Box)} {t : Nat} (h : d ≠ some t) : (s.upd d r u).t t = s.t t := by
  simp [PS.upd, tupd, h]

/-- k stands ahead of i in the text, and may come behind it as well. -/
theorem swapO {k i : Oper} {s : PS} {rk ri : PV} {uk ui : Option (Nat × Box)} (hr : Rpr n s) (hap : indepO ops k i = true) (h1 : Eff P ops k s rk uk) (h2 : Eff P ops i (s.upd k.dst rk uk) ri ui) :
    Eff P ops i s ri ui ∧ Eff P ops k (s.upd i.dst ri ui) rk uk ∧ (s.upd k.dst rk uk).upd i.dst ri ui = (s.upd i.dst ri ui).upd k.dst rk uk := by
  simp only [indepO, Bool.and_eq_true, Bool.or_eq_true, beq_iff_eq, bne_iff_ne] at hap
  obtain ⟨hap, hkind⟩ := hap
  obtain ⟨a1, a2, a3⟩ := Oper.apart_spec hap
  obtain ⟨w0, F0, a, w, _, _, ρ, F, hi, hev⟩ := hr
  have hev' := ev_rep hev
  have ti : ∀ t ∈ i.looksAt ops, (s.upd k.dst rk uk).t t = s.t t := fun t ht => upd_t (fun e => a1 t e ht)
  have tk : ∀ t ∈ k.looksAt ops, (s.upd i.dst ri ui).t t = s.t t := fun t ht => upd_t (fun e => a3 t e ht)
  have gi := guardB_same (s := s) (s' := s.upd k.dst rk uk) ti
  have gk := guardB_same (s := s) (s' := s.upd i.dst ri ui) tk
  have evi := evSame_of (s := s) (s' := s.upd k.dst rk uk) ti
  have evk := evSame_of (s := s) (s' := s.upd i.dst ri ui) tk
  have hu1 : uk = none ∨ okind k = 3 ∨ ∃ d B, okind k = 2 ∧ k.dst = some d ∧ s.b d = none ∧ uk = some (d, B) := by
    unfold Eff at h1
    split at h1
    · have hk3 : okind k = 0 ∨ okind k = 1 ∨ okind k = 2 ∨ okind k = 3 := by
        unfold okind; split <;> first | simp; done | (split <;> simp)
      rcases hk3 with h | h | h | h
      · exact .inl (effW_none (.inl h) h1)
      · exact .inl (effW_none (.inr h) h1)
      · obtain ⟨d, B, x1, x2, x3⟩ := effW_new h h1
        exact .inr (.inr ⟨d, B, h, x1, x2, x3⟩)
      · exact .inr (.inl h)
    · exact .inl h1.2
    · exact h1.elim
  have mk : okind k = 3 ∨ More s.b (s.upd k.dst rk uk).b := by
    rcases hu1 with rfl | h | ⟨d, B, _, _, hb, rfl⟩
    · exact .inr fun t B h => h
    · exact .inl h
    · refine .inr fun t B' h => ?_
      have : t ≠ d := fun e => by rw [e, hb] at h; cases h
      simp only [PS.upd]
      rw [bupd_ne _ _ this]
      exact h
  have E2 : Eff P ops i s ri ui := by
    unfold Eff at h2 ⊢
    rw [gi] at h2
    split at h2
    · by_cases hi3 : okind i = 3
      · have hk0 : okind k = 0 := by rw [hi3] at hkind; simpa using hkind
        have hun : uk = none := by
          unfold Eff at h1
          split at h1
          · exact effW_none (.inl hk0) h1
          · exact h1.2
          · exact h1.elim
        subst hun
        exact (effW_sameB (s := s) (s' := s.upd k.dst rk none) evi rfl).1 h2
      refine (effW_same (s := s) (s' := s.upd k.dst rk uk) evi ?_).1 h2
      have hk3 : okind i = 0 ∨ okind i = 1 ∨ okind i = 2 ∨ okind i = 3 := by
        unfold okind; split <;> first | simp; done | (split <;> simp)
      rcases hk3 with h | h | h | h
      · exact .inl h
      · refine .inr (.inl ⟨h, fun x hx => ?_⟩)
        rcases mk with hk | hm
        · rw [h, hk] at hkind; simp at hkind
        · exact readSame_of (hev' x) hm
      · refine .inr (.inr ⟨h, fun d hd => ?_⟩)
        rcases hu1 with rfl | hk | ⟨d', B, _, hd', _, rfl⟩
        · rfl
        · rw [h, hk] at hkind; simp at hkind
        · have : d ≠ d' := fun e => by subst e; exact a2 d hd' hd
          simp only [PS.upd]
          exact bupd_ne _ _ this
      · exact absurd h hi3
    · exact h2
    · exact h2
  have hu2 : ui = none ∨ okind i = 3 ∨ ∃ d B, okind i = 2 ∧ i.dst = some d ∧ s.b d = none ∧ ui = some (d, B) := by
    unfold Eff at E2
    split at E2
    · have hk3 : okind i = 0 ∨ okind i = 1 ∨ okind i = 2 ∨ okind i = 3 := by
        unfold okind; split <;> first | simp; done | (split <;> simp)
      rcases hk3 with h | h | h | h
      · exact .inl (effW_none (.inl h) E2)
      · exact .inl (effW_none (.inr h) E2)
      · obtain ⟨d, B, x1, x2, x3⟩ := effW_new h E2
        exact .inr (.inr ⟨d, B, h, x1, x2, x3⟩)
      · exact .inr (.inl h)
    · exact .inl E2.2
    · exact E2.elim
  have hnk : okind k = 3 → ui = none := fun hk => by
    have hi0 : okind i = 0 := by rw [hk] at hkind; simpa using hkind
    rcases hu2 with h | h | ⟨_, _, h, _⟩
    · exact h
    · rw [hi0] at h; cases h
    · rw [hi0] at h; cases h
  have hni : okind i = 3 → uk = none := fun hk => by
    have hk0 : okind k = 0 := by rw [hk] at hkind; simpa using hkind
    rcases hu1 with h | h | ⟨_, _, h, _⟩
    · exact h
    · rw [hk0] at h; cases h
    · rw [hk0] at h; cases h
  refine ⟨E2, ?_, upd_comm a2 (fun x B y B' e1 e2 => ?_)⟩
  · unfold Eff at h1 ⊢
    rw [gk]
    split at h1
    · by_cases hk3 : okind k = 3
      · have := hnk hk3
        subst this
        exact (effW_sameB (s := s) (s' := s.upd i.dst ri none) evk rfl).2 h1
      refine (effW_same (s := s) (s' := s.upd i.dst ri ui) evk ?_).2 h1
      have hkk : okind k = 0 ∨ okind k = 1 ∨ okind k = 2 ∨ okind k = 3 := by
        unfold okind; split <;> first | simp; done | (split <;> simp)
      have mi : okind i = 3 ∨ More s.b (s.upd i.dst ri ui).b := by
        rcases hu2 with rfl | h | ⟨d, B, _, _, hb, rfl⟩
        · exact .inr fun t B h => h
        · exact .inl h
        · refine .inr fun t B' h => ?_
          have : t ≠ d := fun e => by rw [e, hb] at h; cases h
          simp only [PS.upd]
          rw [bupd_ne _ _ this]
          exact h
      rcases hkk with h | h | h | h
      · exact .inl h
      · refine .inr (.inl ⟨h, fun x hx => ?_⟩)
        rcases mi with hi3 | hm
        · rw [h, hi3] at hkind; simp at hkind
        · exact readSame_of (hev' x) hm
      · refine .inr (.inr ⟨h, fun d hd => ?_⟩)
        rcases hu2 with rfl | hi3 | ⟨d', B, _, hd', _, rfl⟩
        · rfl
        · rw [h, hi3] at hkind; simp at hkind
        · have : d ≠ d' := fun e => by subst e; exact a2 d hd hd'
          simp only [PS.upd]
          exact bupd_ne _ _ this
      · exact absurd h hk3
    · exact h1
    · exact h1
  · subst e1 e2
    rcases hu1 with h | h | ⟨d, B1, _, hd, _, h⟩
    · cases h
    · have := hnk h; cases this
    · injection h with h
      injection h with h _
      subst h
      rcases hu2 with h | h | ⟨d', B2, _, hd', _, h⟩
      · cases h
      · have := hni h; cases this
      · injection h with h
        injection h with h _
        subst h
        exact fun e => by subst e; exact a2 _ hd hd'

theorem asSl_new {d : Nat} {B : Box} {q : PV} {es : List (List D)} (hd : b d = none) (h : asSl b q = some es) : asSl (bupd b (some (d, B))) q = some es := by
  cases q with
  | row t m =>
    simp only [asSl] at h ⊢
    have : t ≠ d := by rintro rfl; rw [hd] at h; cases h
    rw [bupd_ne _ _ this]
    exact h
  | d x =>
    rw [← h]
    cases x with
    | sl es => rfl
    | v y => cases y <;> first | rfl | (rename_i A _ _; cases A <;> rfl)
  | _ => cases h
theorem effAppend_new {d : Nat} {B : Box} {dst : Option Nat} {t : TypeId} {p q : PV} {out : PV × Option (Nat × Box)} (hd : b d = none) (hne : dst ≠ some d) (h : effAppend P b dst t p q = some out) : effAppend P (bupd b (some (d, B))) dst t p q = some out := by
  unfold effAppend at h ⊢
  split at h
  · rename_i e es2 hu hq
    rw [hu, asSl_new hd hq]
    simp only
    cases hi : tinf P e with
    | none => rw [hi] at h; cases h
    | some i =>
      rw [hi] at h
      simp only at h ⊢
      split at h
      · rename_i hc
        rw [if_pos hc]
        cases p with
        | row x m =>
          simp only at h ⊢
          have : x ≠ d := by rintro rfl; rw [hd] at h; cases h
          rw [bupd_ne _ _ this]
          exact h
        | d y =>
          cases y with
          | sl es => cases h
          | v z =>
            cases z with
            | slice A m c =>
              cases A with
              | some A => cases h
              | none =>
                simp only at h ⊢
                split at h
                · rename_i hmc
                  rw [if_pos hmc]
                  cases dst with
                  | none => cases h
                  | some dd =>
                    have : dd ≠ d := fun e => hne (by rw [e])
                    simp only at h ⊢
                    rw [bupd_ne _ _ this]
                    exact h
                · cases h
            | _ => cases h
        | _ => cases h
      · cases h
  · cases h
/-- What append turns: one row, laid by it or made longer. -/
theorem effAppend_row {dst : Option Nat} {t : TypeId} {p q r : PV} {u : Option (Nat × Box)} (h : effAppend P b dst t p q = some (r, u)) :
    ∃ x e k es', u = some (x, .rw e k es') ∧ ((dst = some x ∧ b x = none) ∨ ∃ es, b x = some (.rw e k es) ∧ es.length ≤ es'.length ∧ (es'.length = es.length → es' = es)) := by
  unfold effAppend at h
  split at h
  · rename_i e0 es2 hu0 hq0
    split at h
    · split at h
      · split at h
        · split at h
          · split at h
            · rename_i es hb hc
              injection h with h
              injection h with h1 h2
              refine ⟨_, _, _, _, h2.symm, .inr ⟨es, ?_, ?_, ?_⟩⟩
              · rw [hb, hc.2.1]
              · rw [List.length_append]; omega
              · intro hl
                rw [List.length_append] at hl
                have h0 : es2 = [] := List.eq_nil_of_length_eq_zero (by omega)
                rw [h0, List.append_nil]
            · cases h
          · cases h
        · split at h
          · split at h
            · split at h
              · rename_i hb
                split at h
                · injection h with h
                  injection h with h1 h2
                  exact ⟨_, _, _, _, h2.symm, .inl ⟨rfl, hb⟩⟩
                · cases h
              · cases h
            · cases h
          · cases h
        · cases h
      · cases h
    · cases h
  · cases h
theorem addrP_app {x e k : Nat} {es' : List (List D)} {v : Value} {p : PV} {cl : List PV} (hx : b x = none ∨ ∃ e0 k0 es, b x = some (.rw e0 k0 es) ∧ es.length ≤ es'.length ∧ (es'.length = es.length → es' = es)) (hp : PRep ρ b w F v p) (h : addrP (bupd b (some (x, .rw e k es'))) p = some cl) : addrP b p = some cl := by
  cases hp with
  | ptr t off g ty cs hb hρ =>
    simp only [addrP] at h ⊢
    by_cases e : t = x
    · subst e; rw [bupd_same] at h; cases h
    · rw [bupd_ne _ _ e] at h; exact h
  | re t m i off a e0 k0 es hb hn hi hρ =>
    simp only [addrP] at h ⊢
    by_cases e : t = x
    · subst e
      rw [bupd_same] at h
      rcases hx with hx | ⟨e1, k1, es1, hx, hle, heq⟩
      · rw [hb] at hx; cases hx
      · rw [hb] at hx
        injection hx with hx
        injection hx with _ _ hx
        subst hx
        simp only at h
        split at h
        · rename_i hm
          have := heq (by omega)
          subst this
          rw [hb]
          simp only
          rw [if_pos hm]
          exact h
        · cases h
    · rw [bupd_ne _ _ e] at h; exact h
  | _ => exact h
theorem app_eff {o : Oper} {s : PS} {r : PV} {u : Option (Nat × Box)} (ha : isApp o = true) : callOf o = none ∧ okind o = 3 ∧ (eff P o s = some (r, u) → ∃ c x y t, o.op = .call c ∧ c.args.toList.map (ev s) = [x, y] ∧ effAppend P s.b o.dst t x y = some (r, u) ∧ ∀ s' : PS, c.args.toList.map (ev s') = [x, y] → eff P o s' = effAppend P s'.b o.dst t x y) := by
  unfold isApp at ha
  split at ha
  · rename_i c ho
    split at ha
    · rename_i hf
      refine ⟨by unfold callOf; simp only [ho, hf], by unfold okind; simp only [ho, hf], fun h => ?_⟩
      unfold eff at h
      simp only [ho, hf, effBuiltin] at h
      split at h
      · rename_i x y t t' hx ht
        split at h
        · rename_i htt
          refine ⟨c, x, y, t, ho, hx, h, fun s' hs' => ?_⟩
          unfold eff
          simp only [ho, hf, effBuiltin, hs', ht]
          rw [if_pos htt]
        · cases h
      · cases h
    · cases ha
  · cases ha
/-- An append ahead of a load, or of what lays a box, may come behind it. -/
theorem swapA {k i : Oper} {s : PS} {rk ri : PV} {uk ui : Option (Nat × Box)} (hr : Rpr n s) (hap : k.apart ops i = true) (ha : isApp k = true) (hi : isLd i = true ∨ okind i = 2) (h1 : Eff P ops k s rk uk) (h2 : Eff P ops i (s.upd k.dst rk uk) ri ui) :
    Eff P ops i s ri ui ∧ Eff P ops k (s.upd i.dst ri ui) rk uk ∧ (s.upd k.dst rk uk).upd i.dst ri ui = (s.upd i.dst ri ui).upd k.dst rk uk := by
  obtain ⟨a1, a2, a3⟩ := Oper.apart_spec hap
  obtain ⟨w0, F0, a, w, _, _, ρ, F, hinv, hev⟩ := hr
  have hev' := ev_rep hev
  have ti : ∀ t ∈ i.looksAt ops, (s.upd k.dst rk uk).t t = s.t t := fun t ht => upd_t (fun e => a1 t e ht)
  have tk : ∀ t ∈ k.looksAt ops, (s.upd i.dst ri ui).t t = s.t t := fun t ht => upd_t (fun e => a3 t e ht)
  have gi := guardB_same (s := s) (s' := s.upd k.dst rk uk) ti
  have gk := guardB_same (s := s) (s' := s.upd i.dst ri ui) tk
  have evi := evSame_of (s := s) (s' := s.upd k.dst rk uk) ti
  have evk := evSame_of (s := s) (s' := s.upd i.dst ri ui) tk
  obtain ⟨hck, hk3, happ⟩ := app_eff (P := P) (s := s) (r := rk) (u := uk) ha
  unfold Eff at h1 h2 ⊢
  rw [gi] at h2
  rw [gk]
  cases hgk : guardB ops k s with
  | none => rw [hgk] at h1; exact h1.elim
  | some gkb =>
    rw [hgk] at h1
    cases gkb with
    | false =>
      obtain ⟨rfl, rfl⟩ := h1
      refine ⟨?_, ⟨rfl, rfl⟩, upd_comm a2 (fun x B y B' e1 e2 => by cases e1)⟩
      cases hgi : guardB ops i s with
      | none => rw [hgi] at h2; exact h2.elim
      | some gib =>
        rw [hgi] at h2
        cases gib with
        | false => exact h2
        | true => exact (effW_sameB (s := s) (s' := s.upd k.dst (.tup []) none) evi rfl).1 h2
    | true =>
      simp only at h1 ⊢
      unfold EffW at h1
      rw [hck] at h1
      simp only at h1
      obtain ⟨c, px, py, t, hop, hargs, happ1, happ2⟩ := happ h1
      obtain ⟨x, e, kk, es', rfl, hx⟩ := effAppend_row happ1
      have hargs' : c.args.toList.map (ev (s.upd i.dst ri ui)) = [px, py] := by rw [args_same hop evk, hargs]
      have back : (∀ d B, ui = some (d, B) → s.b d = none ∧ i.dst = some d) → EffW P k (s.upd i.dst ri ui) rk (some (x, .rw e kk es')) := by
        intro hu
        unfold EffW
        rw [hck]
        simp only
        rw [happ2 _ hargs']
        cases ui with
        | none => exact happ1
        | some dB =>
          obtain ⟨d, B⟩ := dB
          obtain ⟨h3, h4⟩ := hu d B rfl
          exact effAppend_new h3 (fun e => a2 d e h4) happ1
      have comm : (∀ d B, ui = some (d, B) → s.b d = none ∧ i.dst = some d) → (s.upd k.dst rk (some (x, .rw e kk es'))).upd i.dst ri ui = (s.upd i.dst ri ui).upd k.dst rk (some (x, .rw e kk es')) := by
        intro hu
        refine upd_comm a2 (fun x1 B1 y B' e1 e2 => ?_)
        injection e1 with e1
        injection e1 with e1 _
        subst e1
        obtain ⟨h3, h4⟩ := hu y B' e2
        rintro rfl
        rcases hx with ⟨h5, _⟩ | ⟨es, h5, _⟩
        · exact a2 _ h5 h4
        · rw [h3] at h5; cases h5
      cases hgi : guardB ops i s with
      | none => rw [hgi] at h2; exact h2.elim
      | some gib =>
        rw [hgi] at h2
        cases gib with
        | false =>
          obtain ⟨rfl, rfl⟩ := h2
          exact ⟨⟨rfl, rfl⟩, back (fun d B h => by cases h), comm (fun d B h => by cases h)⟩
        | true =>
          simp only at h2 ⊢
          rcases hi with hi | hi
          · unfold isLd at hi
            split at hi
            · rename_i lt la ho
              have hci : callOf i = none := by unfold callOf; simp only [ho]
              unfold EffW at h2 ⊢
              rw [hci] at h2
              rw [hci]
              simp only at h2 ⊢
              unfold eff at h2
              simp only [ho] at h2
              rw [evi la (by rw [ho]; simp [Op.operands])] at h2
              rw [Option.map_eq_some_iff] at h2
              obtain ⟨r1, h3, h4⟩ := h2
              injection h4 with h4 h5
              subst h4 h5
              have h6 : effLoad P s.b lt (ev s la) = some r1 := by
                unfold effLoad at h3 ⊢
                split at h3
                · rename_i ii cl hti hcl
                  rw [hti, addrP_app (hx.imp (fun h => h.2) (fun ⟨es, h⟩ => ⟨_, _, es, h⟩)) (hev' la) hcl]
                  exact h3
                · cases h3
              have B1 := back (fun d B h => by cases h)
              unfold EffW at B1
              rw [hck] at B1
              refine ⟨?_, ?_, comm (fun d B h => by cases h)⟩
              · unfold eff
                simp only [ho, h6, Option.map_some]
              · rw [hck]
                exact B1
            · cases hi
          · obtain ⟨d, B, hd, hb, rfl⟩ := effW_new hi h2
            have hdx : d ≠ x := by
              rintro rfl
              simp only [PS.upd] at hb
              rw [bupd_same] at hb
              cases hb
            have hb0 : s.b d = none := by
              simp only [PS.upd] at hb
              rwa [bupd_ne _ _ hdx] at hb
            have hu : ∀ d' B', some (d, B) = some (d', B') → s.b d' = none ∧ i.dst = some d' := by
              intro d' B' h
              injection h with h
              injection h with h _
              subst h
              exact ⟨hb0, hd⟩
            refine ⟨(effW_same (s := s) (s' := s.upd k.dst rk (some (x, .rw e kk es'))) evi (.inr (.inr ⟨hi, fun d' hd' => ?_⟩))).1 h2, back hu, comm hu⟩
            rw [hd] at hd'
            injection hd' with hd'
            subst hd'
            simp only [PS.upd]
            exact bupd_ne _ _ hdx
/-! ### A store into a known box -/
/-- b and b' differ in the struct box x alone. -/
structure Off (x : Nat) (b b' : Nat → Option Box) : Prop where
  same : ∀ t, t ≠ x → b' t = b t
  one : ∃ ty cs, b x = some (.st ty cs)
  two : ∃ ty cs, b' x = some (.st ty cs)
theorem Off.rw_ {x : Nat} (h : Off x b b') (t e k : Nat) (es : List (List D)) : b' t = some (.rw e k es) ↔ b t = some (.rw e k es) := by
  by_cases ht : t = x
  · subst ht
    obtain ⟨_, _, h1⟩ := h.one
    obtain ⟨_, _, h2⟩ := h.two
    rw [h1, h2]; simp
  · rw [h.same t ht]
theorem Off.none_ {x : Nat} (h : Off x b b') (t : Nat) : b' t = none ↔ b t = none := by
  by_cases ht : t = x
  · subst ht
    obtain ⟨_, _, h1⟩ := h.one
    obtain ⟨_, _, h2⟩ := h.two
    rw [h1, h2]; simp
  · rw [h.same t ht]
/-- Either the same, or struct boxes on both sides. -/
theorem Off.cases {x : Nat} (h : Off x b b') (t : Nat) : b' t = b t ∨ (t = x ∧ ∃ ty cs ty' cs', b t = some (.st ty cs) ∧ b' t = some (.st ty' cs')) := by
  by_cases ht : t = x
  · subst ht
    obtain ⟨ty, cs, h1⟩ := h.one
    obtain ⟨ty', cs', h2⟩ := h.two
    exact .inr ⟨rfl, ty, cs, ty', cs', h1, h2⟩
  · exact .inl (h.same t ht)
mutual
theorem Off.data {x : Nat} (h : Off x b b') : ∀ p, asData b' p = asData b p
  | .row t n => by
    simp only [asData]
    rcases h.cases t with h1 | ⟨_, _, _, _, _, h1, h2⟩
    · rw [h1]
    · rw [h1, h2]
  | .ag cs => by simp only [asData]; rw [h.datas cs]
  | .tup cs => by simp only [asData]; rw [h.datas cs]
  | .junk => rfl
  | .d _ => rfl
  | .ptr _ _ => rfl
  | .re _ _ _ _ => rfl
  | .fe _ => rfl
theorem Off.datas {x : Nat} (h : Off x b b') : ∀ cs, asDatas b' cs = asDatas b cs
  | [] => rfl
  | c :: cs => by simp only [asDatas]; rw [h.data c, h.datas cs]
end
theorem Off.sl {x : Nat} (h : Off x b b') (p : PV) : asSl b' p = asSl b p := by
  cases p with
  | row t n =>
    simp only [asSl]
    rcases h.cases t with h1 | ⟨_, _, _, _, _, h1, h2⟩
    · rw [h1]
    · rw [h1, h2]
  | d y => cases y with
    | sl es => rfl
    | v z => cases z <;> first | rfl | (rename_i A _ _; cases A <;> rfl)
  | _ => rfl
theorem Off.addr {x : Nat} (h : Off x b b') (p : PV) (hp : ∀ o, p ≠ .ptr x o) : addrP b' p = addrP b p := by
  cases p with
  | ptr t o =>
    have ht : t ≠ x := fun e => hp o (by rw [e])
    simp only [addrP, h.same t ht]
  | re t n i o =>
    simp only [addrP]
    rcases h.cases t with h1 | ⟨_, _, _, _, _, h1, h2⟩
    · rw [h1]
    · rw [h1, h2]
  | _ => rfl
theorem Off.append {x : Nat} (h : Off x b b') (dst : Option Nat) (t : TypeId) (p q : PV) : effAppend P b' dst t p q = effAppend P b dst t p q := by
  unfold effAppend
  rw [h.sl]
  cases p with
  | row z n =>
    rcases h.cases z with h1 | ⟨_, _, _, _, _, h1, h2⟩
    · simp only [h1]
    · simp only [h1, h2]
  | d y => cases y with
    | sl es => rfl
    | v z => cases z with
      | slice A n c => cases A with
        | some a => rfl
        | none => cases dst with
          | none => rfl
          | some d =>
            rcases h.cases d with h1 | ⟨_, _, _, _, _, h1, h2⟩
            · simp only [h1]
            · simp only [h1, h2]
      | _ => rfl
  | _ => rfl
theorem Off.eff {x : Nat} {o : Oper} {s s' : PS} (he : EvSame o s s') (h : Off x s.b s'.b) (hld : ∀ t a, o.op = .load t a → ∀ off, ev s a ≠ .ptr x off) (hst : ∀ t a y, o.op = .store t a y → ∀ off, ev s a ≠ .ptr x off) : Go.Proofs.Ytcphpbhngnnpmaa.eff P o s' = Go.Proofs.Ytcphpbhngnnpmaa.eff P o s := by
  unfold Go.Proofs.Ytcphpbhngnnpmaa.eff
  unfold EvSame at he
  split <;> rename_i ho
  case h_1 => rw [he _ (by rw [ho]; simp [Op.operands])]
  case h_2 => rw [he _ (by rw [ho]; simp [Op.operands])]
  case h_3 => rw [he _ (by rw [ho]; simp [Op.operands]), he _ (by rw [ho]; simp [Op.operands]), he _ (by rw [ho]; simp [Op.operands])]
  case h_4 =>
    unfold effAlloc
    split
    · rename_i t i hdd _
      rcases h.cases t with h1 | ⟨_, _, _, _, _, h1, h2⟩
      · rw [h1]
      · rw [h1, h2]
    · rfl
  case h_5 =>
    rw [he _ (by rw [ho]; simp [Op.operands])]
    unfold effBox
    split
    · rename_i t i hdd _
      rcases h.cases t with h1 | ⟨_, _, _, _, _, h1, h2⟩
      · rw [h1]
      · rw [h1, h2]
    · rfl
  case h_6 => rw [parts_same (.inl ho) he]
  case h_7 =>
    rw [parts_same (.inr ⟨_, ho⟩) he]
    unfold effBuildSlice
    split
    · rename_i t i hdd _
      rcases h.cases t with h1 | ⟨_, _, _, _, _, h1, h2⟩
      · rw [h1]
      · rw [h1, h2]
        cases tinf P i <;> rfl
    · rfl
  case h_8 =>
    rename_i t a
    rw [he _ (by rw [ho]; simp [Op.operands])]
    unfold effLoad
    rw [h.addr _ (hld t a ho)]
  case h_9 =>
    rename_i t a y
    have e1 : ev s' a = ev s a := he _ (by rw [ho]; simp [Op.operands])
    have e2 : ev s' y = ev s y := he _ (by rw [ho]; simp [Op.operands])
    rw [e1, e2]
    have hne := hst t a y ho
    congr 1
    unfold effStore
    split
    · split
      · rename_i z off hp
        have hz : z ≠ x := fun e => hne off (by rw [hp, e])
        rw [h.same z hz]
      · rename_i z n j off hp
        rcases h.cases z with h1 | ⟨_, _, _, _, _, h1, h2⟩
        · rw [h1]
        · rw [h1, h2]
      · rfl
    · rfl
  case h_10 => rw [he _ (by rw [ho]; simp [Op.operands]), he _ (by rw [ho]; simp [Op.operands])]
  case h_11 => rw [he _ (by rw [ho]; simp [Op.operands])]
  case h_12 =>
    rw [he _ (by rw [ho]; simp [Op.operands])]
    unfold effConvB
    rw [h.sl]
  case h_13 =>
    rename_i t z lo hi
    have e1 : ev s' z = ev s z := he _ (by rw [ho]; simp [Op.operands])
    have e2 : lo.map (ev s') = lo.map (ev s) := by
      cases lo with
      | none => rfl
      | some y => simp only [Option.map_some]; rw [he y (by rw [ho]; simp [Op.operands])]
    have e3 : hi.map (ev s') = hi.map (ev s) := by
      cases hi with
      | none => rfl
      | some y => simp only [Option.map_some]; rw [he y (by rw [ho]; simp [Op.operands])]
    rw [e1, e2, e3, effSlice_b s.b s'.b]
  case h_14 => rw [he _ (by rw [ho]; simp [Op.operands])]
  case h_15 => rw [he _ (by rw [ho]; simp [Op.operands])]
  case h_16 =>
    rename_i t z i
    have e1 : ev s' z = ev s z := he _ (by rw [ho]; simp [Op.operands])
    have e2 : ev s' i = ev s i := he _ (by rw [ho]; simp [Op.operands])
    rw [e1, e2]
    congr 1
    unfold effIndexAddr
    split
    · split
      · split
        · split
          · rfl
          · rename_i t' m hp
            rcases h.cases t' with h1 | ⟨_, _, _, _, _, h1, h2⟩
            · rw [h1]
            · rw [h1, h2]
          · rfl
        · rfl
      · rfl
    · rfl
  case h_17 => rw [he _ (by rw [ho]; simp [Op.operands])]
  case h_18 => rw [he _ (by rw [ho]; simp [Op.operands]), he _ (by rw [ho]; simp [Op.operands])]
  case h_19 =>
    rename_i c
    rw [args_same ho he]
    split
    · rename_i f hf
      cases f <;> first
        | rfl
        | (unfold effBuiltin
           simp only
           split
           · split
             · exact h.append _ _ _ _
             · rfl
           · rfl)
    · rfl
  case h_20 => rfl
theorem Off.effW {x : Nat} {o : Oper} {s s' : PS} {r : PV} {u : Option (Nat × Box)} (he : EvSame o s s') (h : Off x s.b s'.b) (hld : ∀ t a, o.op = .load t a → ∀ off, ev s a ≠ .ptr x off) (hst : ∀ t a y, o.op = .store t a y → ∀ off, ev s a ≠ .ptr x off) : EffW P o s' r u ↔ EffW P o s r u := by
  unfold EffW
  split
  · rename_i f xs hc
    obtain ⟨hk1, hx⟩ := callOf_kind hc
    have e1 : xs.map (ev s') = xs.map (ev s) := List.map_congr_left fun x h => he x (hx x h)
    unfold CallOk
    rw [e1, h.datas]
  · rw [h.eff he hld hst]
/-- What box an operation turns that is no store: none that was a struct's. -/
theorem effW_at {o : Oper} {s : PS} {r : PV} {x : Nat} {B : Box} (hs : isSt o = false) (h : EffW P o s r (some (x, B))) : ∀ ty cs, s.b x ≠ some (.st ty cs) := by
  have hk3 : okind o = 0 ∨ okind o = 1 ∨ okind o = 2 ∨ okind o = 3 := by
    unfold okind; split <;> first | simp; done | (split <;> simp)
  rcases hk3 with hk | hk | hk | hk
  · have := effW_none (.inl hk) h; cases this
  · have := effW_none (.inr hk) h; cases this
  · obtain ⟨d, B', _, hb, he⟩ := effW_new hk h
    injection he with he
    injection he with he _
    subst he
    intro ty cs h; rw [hb] at h; cases h
  · by_cases ha : isApp o = true
    · obtain ⟨hc, _, happ⟩ := app_eff (P := P) (s := s) (r := r) (u := some (x, B)) ha
      unfold EffW at h
      rw [hc] at h
      obtain ⟨_, _, _, _, _, _, h1, _⟩ := happ h
      obtain ⟨y, e, k, es', he, hx⟩ := effAppend_row h1
      injection he with he
      injection he with he _
      subst he
      intro ty cs h2
      rcases hx with ⟨_, h3⟩ | ⟨_, h3, _⟩ <;> (rw [h2] at h3; cases h3)
    · exfalso
      rcases callOf_none h with ⟨_, h⟩ | ⟨h1, _⟩
      · unfold Go.Proofs.Ytcphpbhngnnpmaa.eff at h
        unfold okind at hk
        unfold isSt at hs
        unfold isApp at ha
        split at h <;> rename_i ho <;> simp only [ho] at hk hs ha
        case h_19 =>
          split at h
          · rename_i c f hf
            simp only [hf] at hk ha
            unfold effBuiltin at h
            split at h <;> first | (simp at hk; done) | (simp at ha; done) | cases h
          · cases h
        all_goals first | (simp at hk; done) | (simp at hs; done) | cases h
      · rw [hk] at h1; cases h1
theorem ev_ne {s : PS} {a : Operand} (h : ∀ q, a ≠ .tmp q) : (∀ z o, ev s a ≠ .ptr z o) ∧ (∀ z n j o, ev s a ≠ .re z n j o) := by
  cases a with
  | tmp q => exact absurd rfl (h q)
  | const v =>
    cases v with
    | agg xs =>
      constructor <;> (intros; simp only [ev, ofVal]; split <;> (intro h; cases h))
    | _ => constructor <;> (intros; simp only [ev, ofVal]; intro h; cases h)
  | _ => constructor <;> (intros; simp only [ev]; intro h; cases h)
theorem cls_ptr {c : List (Nat × Option Nat)} {s : PS} {t b off : Nat} (h : ClsOk c s) (ht : clsOf c t = some (some b)) (x : Nat) (hx : s.t t = .ptr x off) : x = b := by
  have := h t _ ht
  rw [hx] at this
  simpa [clsP] using this
/-- The address of a load or a store that keeps off box x. -/
theorem cls_off {c : List (Nat × Option Nat)} {s : PS} {x : Nat} {o : Oper} (h : ClsOk c s) (hy : (match (addrOp o).bind (clsOf c) with | some (some b') => b' != x | some none => true | none => false) = true) :
    (∀ t a, o.op = .load t a → ∀ off, ev s a ≠ .ptr x off) ∧ (∀ t a y, o.op = .store t a y → ∀ off, ev s a ≠ .ptr x off) := by
  have key : ∀ t, addrOp o = some t → ∀ off, s.t t ≠ .ptr x off := by
    intro t ht off hp
    rw [ht] at hy
    simp only [Option.bind_some] at hy
    split at hy
    · rename_i b' hb
      have := cls_ptr h hb x hp
      simp [this] at hy
    · rename_i hb
      have := h t _ hb
      rw [hp] at this
      simp [clsP] at this
    · cases hy
  constructor
  · intro t a ho off
    cases a with
    | tmp z => exact key z (by unfold addrOp; rw [ho]) off
    | _ => exact (ev_ne (fun q e => by cases e)).1 _ _
  · intro t a y ho off
    cases a with
    | tmp z => exact key z (by unfold addrOp; rw [ho]) off
    | _ => exact (ev_ne (fun q e => by cases e)).1 _ _
/-- A store into a known box, carried out. -/
theorem st_eff {c : List (Nat × Option Nat)} {o : Oper} {s : PS} {x : Nat} {r : PV} {u : Option (Nat × Box)} (h : ClsOk c s) (hs : isSt o = true) (hc : (addrOp o).bind (clsOf c) = some (some x)) :
    callOf o = none ∧ (Go.Proofs.Ytcphpbhngnnpmaa.eff P o s = some (r, u) → ∃ ty cs cs', u = some (x, .st ty cs') ∧ s.b x = some (.st ty cs) ∧ ∀ s', EvSame o s s' → s'.b x = s.b x → Go.Proofs.Ytcphpbhngnnpmaa.eff P o s' = some (r, u)) := by
  unfold isSt at hs
  split at hs
  · rename_i t a y ho
    refine ⟨by unfold callOf; simp only [ho], fun h1 => ?_⟩
    unfold Go.Proofs.Ytcphpbhngnnpmaa.eff at h1
    simp only [ho] at h1
    have hp : ∀ z off, ev s a = .ptr z off → z = x := by
      intro z off he
      cases a with
      | tmp q =>
        have : addrOp o = some q := by unfold addrOp; rw [ho]
        rw [this] at hc
        exact cls_ptr h (by simpa using hc) z he
      | _ => exact absurd he ((ev_ne (fun q e => by cases e)).1 _ _)
    have hr : ∀ z n j off, ev s a ≠ .re z n j off := by
      intro z n j off he
      cases a with
      | tmp q =>
        have : addrOp o = some q := by unfold addrOp; rw [ho]
        rw [this] at hc
        have h2 := h q _ (by simpa using hc)
        have he' : s.t q = .re z n j off := he
        rw [he'] at h2
        simp [clsP] at h2
      | _ => exact absurd he ((ev_ne (fun q e => by cases e)).2 _ _ _ _)
    rw [Option.map_eq_some_iff] at h1
    obtain ⟨u0, h2, h3⟩ := h1
    injection h3 with h3 h4
    subst h3 h4
    have h2' := h2
    unfold effStore at h2
    split at h2
    · rename_i i ns hti hns
      split at h2
      · rename_i z off hz
        have hzx := hp z off hz
        subst hzx
        split at h2
        · rename_i ty cs hb
          split at h2
          · rename_i hcnd
            injection h2 with h2
            subst h2
            refine ⟨ty, cs, _, rfl, hb, fun s' he hb' => ?_⟩
            unfold Go.Proofs.Ytcphpbhngnnpmaa.eff
            simp only [ho]
            rw [he a (by rw [ho]; simp [Op.operands]), he y (by rw [ho]; simp [Op.operands])]
            unfold effStore
            rw [hti, hns, hz]
            simp only
            rw [hb', hb]
            simp only [if_pos hcnd, Option.map_some]
          · cases h2
        · cases h2
      · rename_i z n j off hz
        exact absurd hz (hr z n j off)
      · cases h2
    · cases h2
  · cases hs
/-- k and i, one of which stores into a known box that the other keeps off. -/
theorem swapS {c : List (Nat × Option Nat)} {k i : Oper} {s : PS} {rk ri : PV} {uk ui : Option (Nat × Box)} (hr : Rpr n s) (hcl : ClsOk c s) (hap : k.apart ops i = true) (ho : offB c k i = true ∨ offB c i k = true) (h1 : Eff P ops k s rk uk) (h2 : Eff P ops i (s.upd k.dst rk uk) ri ui) :
    Eff P ops i s ri ui ∧ Eff P ops k (s.upd i.dst ri ui) rk uk ∧ (s.upd k.dst rk uk).upd i.dst ri ui = (s.upd i.dst ri ui).upd k.dst rk uk := by
  obtain ⟨a1, a2, a3⟩ := Oper.apart_spec hap
  obtain ⟨w0, F0, a, w, _, _, ρ, F, hinv, hev⟩ := hr
  have ti : ∀ t ∈ i.looksAt ops, (s.upd k.dst rk uk).t t = s.t t := fun t ht => upd_t (fun e => a1 t e ht)
  have tk : ∀ t ∈ k.looksAt ops, (s.upd i.dst ri ui).t t = s.t t := fun t ht => upd_t (fun e => a3 t e ht)
  have gi := guardB_same (s := s) (s' := s.upd k.dst rk uk) ti
  have gk := guardB_same (s := s) (s' := s.upd i.dst ri ui) tk
  have evi := evSame_of (s := s) (s' := s.upd k.dst rk uk) ti
  have evk := evSame_of (s := s) (s' := s.upd i.dst ri ui) tk
  unfold Eff at h1 h2 ⊢
  rw [gi] at h2
  rw [gk]
  -- ways in which one of the two does nothing
  cases hgk : guardB ops k s with
  | none => rw [hgk] at h1; exact h1.elim
  | some gkb =>
  rw [hgk] at h1
  cases hgi : guardB ops i s with
  | none => rw [hgi] at h2; exact h2.elim
  | some gib =>
  rw [hgi] at h2
  cases gkb with
  | false =>
    obtain ⟨rfl, rfl⟩ := h1
    refine ⟨?_, ⟨rfl, rfl⟩, upd_comm a2 (fun x B y B' e1 e2 => by cases e1)⟩
    cases gib with
    | false => exact h2
    | true => exact (effW_sameB (s := s) (s' := s.upd k.dst (.tup []) none) evi rfl).1 h2
  | true =>
  cases gib with
  | false =>
    obtain ⟨rfl, rfl⟩ := h2
    exact ⟨⟨rfl, rfl⟩, (effW_sameB (s := s) (s' := s.upd i.dst (.tup []) none) evk rfl).2 h1, upd_comm a2 (fun x B y B' e1 e2 => by cases e2)⟩
  | true =>
  simp only at h1 h2 ⊢
  have wh : ∀ {o p : Oper}, offB c o p = true → ∃ x, isSt o = true ∧ (addrOp o).bind (clsOf c) = some (some x) ∧ ((isLd p = false ∧ isSt p = false) ∨ (match (addrOp p).bind (clsOf c) with | some (some b') => b' != x | some none => isLd p | none => false) = true) := by
    intro o p h
    unfold offB at h
    simp only [Bool.and_eq_true] at h
    obtain ⟨h3, h4⟩ := h
    split at h4
    · rename_i x hx
      refine ⟨x, h3, hx, ?_⟩
      simp only [Bool.or_eq_true, Bool.and_eq_true, Bool.not_eq_true'] at h4
      exact h4
    · cases h4
  have keep : ∀ {p : Oper} {x : Nat} {s : PS}, ClsOk c s → ((isLd p = false ∧ isSt p = false) ∨ (match (addrOp p).bind (clsOf c) with | some (some b') => b' != x | some none => isLd p | none => false) = true) →
      (∀ t a, p.op = .load t a → ∀ off, ev s a ≠ .ptr x off) ∧ (∀ t a y, p.op = .store t a y → ∀ off, ev s a ≠ .ptr x off) := by
    intro p x s hcl h
    rcases h with ⟨h3, h4⟩ | h
    · refine ⟨fun t a ho => ?_, fun t a y ho => ?_⟩
      · unfold isLd at h3; rw [ho] at h3; cases h3
      · unfold isSt at h4; rw [ho] at h4; cases h4
    · refine cls_off hcl ?_
      split at h
      · rename_i b' hb; first | exact h | (rw [hb]; exact h)
      · rename_i hb; first | rfl | (rw [hb])
      · cases h
  have away : ∀ {p : Oper} {x : Nat} {s : PS} {r : PV} {y : Nat} {B : Box} {ty : TypeId} {cs : List PV}, ClsOk c s → ((isLd p = false ∧ isSt p = false) ∨ (match (addrOp p).bind (clsOf c) with | some (some b') => b' != x | some none => isLd p | none => false) = true) → s.b x = some (.st ty cs) → EffW P p s r (some (y, B)) → y ≠ x := by
    intro p x s r y B ty cs hcl h hb he
    by_cases hs : isSt p = true
    · rcases h with ⟨_, h4⟩ | h
      · rw [hs] at h4; cases h4
      · have hnl : isLd p = false := by
          unfold isSt at hs; unfold isLd
          split at hs <;> rename_i ho
          · simp only [ho]
          · cases hs
        split at h
        · rename_i b' hb'
          obtain ⟨hc1, hc2⟩ := st_eff (P := P) (r := r) (u := some (y, B)) hcl hs hb'
          unfold EffW at he
          rw [hc1] at he
          obtain ⟨_, _, _, h5, _⟩ := hc2 he
          injection h5 with h5
          injection h5 with h5 _
          rw [h5]
          simpa using h
        · rw [hnl] at h; cases h
        · cases h
    · intro e
      exact effW_at (by simpa using hs) he ty cs (by rw [e]; exact hb)
  rcases ho with ho | ho
  · obtain ⟨x, hs, hx, hy⟩ := wh ho
    obtain ⟨hck, hst⟩ := st_eff (P := P) (s := s) (r := rk) (u := uk) hcl hs hx
    have h1' := h1
    unfold EffW at h1'
    rw [hck] at h1'
    obtain ⟨ty, cs, cs', rfl, hb, hback⟩ := hst h1'
    have hoff : Off x s.b (s.upd k.dst rk (some (x, .st ty cs'))).b := ⟨fun t ht => by simp only [PS.upd]; exact bupd_ne _ _ ht, ⟨ty, cs, hb⟩, ⟨ty, cs', by simp only [PS.upd]; exact bupd_same _ _ _⟩⟩
    obtain ⟨hk1, hk2⟩ := keep hcl hy
    have E2 := (hoff.effW (P := P) (r := ri) (u := ui) evi hk1 hk2).1 h2
    have hne : ∀ y B, ui = some (y, B) → y ≠ x := fun y B e => by
      subst e
      exact away hcl hy hb E2
    refine ⟨E2, ?_, upd_comm a2 (fun x' B y B' e1 e2 => ?_)⟩
    · unfold EffW
      rw [hck]
      refine hback _ evk ?_
      cases ui with
      | none => rfl
      | some yB =>
        obtain ⟨y, B⟩ := yB
        simp only [PS.upd]
        exact bupd_ne _ _ (Ne.symm (hne y B rfl))
    · injection e1 with e1
      injection e1 with e1 _
      subst e1
      exact Ne.symm (hne y B' e2)
  · obtain ⟨x, hs, hx, hy⟩ := wh ho
    have hcl2 : ∀ t, (addrOp i) = some t → (s.upd k.dst rk uk).t t = s.t t := fun t ht => by
      refine ti t ?_
      unfold addrOp at ht
      unfold Oper.looksAt
      refine List.mem_append_left _ ?_
      rw [List.mem_filterMap]
      split at ht
      · rename_i ho; injection ht with ht; subst ht; exact ⟨.tmp _, by rw [ho]; simp [Op.operands], rfl⟩
      · rename_i ho; injection ht with ht; subst ht; exact ⟨.tmp _, by rw [ho]; simp [Op.operands], rfl⟩
      · cases ht
    -- the store's address is known already ahead of k
    have hbx : ∃ ty cs, s.b x = some (.st ty cs) := by
      unfold isSt at hs
      split at hs
      · rename_i t ad y hop
        cases ad with
        | tmp q =>
          have haq : addrOp i = some q := by unfold addrOp; rw [hop]
          have hcq : clsOf c q = some (some x) := by rw [haq] at hx; simpa using hx
          have hq := hcl q _ hcq
          have hnc : callOf i = none := by unfold callOf; simp only [hop]
          unfold EffW at h2
          rw [hnc] at h2
          simp only at h2
          unfold Go.Proofs.Ytcphpbhngnnpmaa.eff at h2
          simp only [hop] at h2
          rw [Option.map_eq_some_iff] at h2
          obtain ⟨u0, h3, _⟩ := h2
          have hq2 : ev (s.upd k.dst rk uk) (.tmp q) = s.t q := hcl2 q haq
          rw [hq2] at h3
          have hpq := hev q
          cases hpv : s.t q with
          | ptr z off =>
            rw [hpv] at hq hpq
            simp [clsP] at hq
            subst hq
            generalize a.tmps.getD q undef = vq at hpq
            cases hpq with
            | ptr _ _ g ty cs hb _ => exact ⟨ty, cs, hb⟩
          | junk => rw [hpv] at h3; unfold effStore at h3; split at h3 <;> cases h3
          | tup vs => rw [hpv] at h3; unfold effStore at h3; split at h3 <;> cases h3
          | _ => rw [hpv] at hq; simp [clsP] at hq
        | _ => unfold addrOp at hx; rw [hop] at hx; cases hx
      · cases hs
    obtain ⟨ty, cs, hb⟩ := hbx
    have hne : ∀ y B, uk = some (y, B) → y ≠ x := fun y B e => by
      subst e
      exact away hcl hy hb h1
    have hbx2 : (s.upd k.dst rk uk).b x = s.b x := by
      cases uk with
      | none => rfl
      | some yB =>
        obtain ⟨y, B⟩ := yB
        simp only [PS.upd]
        exact bupd_ne _ _ (Ne.symm (hne y B rfl))
    have hcl3 : ∀ t k', addrOp i = some t → clsOf c t = some k' → clsP k' ((s.upd k.dst rk uk).t t) = true := fun t k' h3 h4 => by
      rw [hcl2 t h3]; exact hcl t k' h4
    -- the store at s
    have E2 : EffW P i s ri ui ∧ ∃ ty' cs', ui = some (x, .st ty' cs') := by
      unfold isSt at hs
      split at hs
      · rename_i t ad y hop
        have hnc : callOf i = none := by unfold callOf; simp only [hop]
        cases ad with
        | tmp q =>
          have haq : addrOp i = some q := by unfold addrOp; rw [hop]
          have hcq : clsOf c q = some (some x) := by rw [haq] at hx; simpa using hx
          unfold EffW at h2 ⊢
          rw [hnc] at h2 ⊢
          simp only at h2 ⊢
          unfold Go.Proofs.Ytcphpbhngnnpmaa.eff at h2 ⊢
          simp only [hop] at h2 ⊢
          rw [Option.map_eq_some_iff] at h2
          obtain ⟨u0, h3, h4⟩ := h2
          injection h4 with h4 h5
          subst h4 h5
          have e1 : ev (s.upd k.dst rk uk) (.tmp q) = ev s (.tmp q) := hcl2 q haq
          have e2 : ev (s.upd k.dst rk uk) y = ev s y := evi y (by rw [hop]; simp [Op.operands])
          rw [e1, e2] at h3
          have hq := hcl q _ hcq
          have h6 : effStore P s.b t (ev s (.tmp q)) (ev s y) = some u0 ∧ ∃ ty' cs', u0 = (x, .st ty' cs') := by
            have hqe : ev s (.tmp q) = s.t q := rfl
            rw [hqe] at h3 ⊢
            cases hpv : s.t q with
            | ptr z off =>
              rw [hpv] at hq h3
              simp [clsP] at hq
              subst hq
              unfold effStore at h3 ⊢
              split at h3
              · simp only at h3 ⊢
                rw [hbx2] at h3
                refine ⟨h3, ?_⟩
                rw [hb] at h3
                simp only at h3
                split at h3
                · injection h3 with h3; exact ⟨_, _, h3.symm⟩
                · cases h3
              · cases h3
            | junk => rw [hpv] at h3; unfold effStore at h3; split at h3 <;> cases h3
            | tup vs => rw [hpv] at h3; unfold effStore at h3; split at h3 <;> cases h3
            | _ => rw [hpv] at hq; simp [clsP] at hq
          obtain ⟨h6, ty', cs', rfl⟩ := h6
          exact ⟨by rw [h6]; rfl, ty', cs', rfl⟩
        | _ => unfold addrOp at hx; rw [hop] at hx; cases hx
      · cases hs
    obtain ⟨E2, ty', cs', rfl⟩ := E2
    have hoff : Off x s.b (s.upd i.dst ri (some (x, .st ty' cs'))).b := ⟨fun t ht => by simp only [PS.upd]; exact bupd_ne _ _ ht, ⟨ty, cs, hb⟩, ⟨ty', cs', by simp only [PS.upd]; exact bupd_same _ _ _⟩⟩
    obtain ⟨hk1, hk2⟩ := keep hcl hy
    refine ⟨E2, (hoff.effW (P := P) (r := rk) (u := uk) evk hk1 hk2).2 h1, upd_comm a2 (fun x' B y B' e1 e2 => ?_)⟩
    injection e2 with e2
    injection e2 with e2 _
    subst e2
    exact hne x' B e1
/-- Classes are kept. -/
theorem ClsOk.step {c : List (Nat × Option Nat)} {o : Oper} {s : PS} {r : PV} {u : Option (Nat × Box)} (h : ClsOk c s) (hc : clsB c o = true) (he : Eff P ops o s r u) : ClsOk c (s.upd o.dst r u) := by
  intro t k ht
  simp only [PS.upd, tupd]
  split
  · rename_i hd
    unfold clsB at hc
    rw [hd] at hc
    simp only [Option.bind_some, ht] at hc
    unfold Eff at he
    split at he
    · unfold EffW at he
      split at hc
      · rename_i tt q f hop
        have hnc : callOf o = none := by unfold callOf; simp only [hop]
        rw [hnc] at he
        simp only at he
        unfold Go.Proofs.Ytcphpbhngnnpmaa.eff at he
        simp only [hop] at he
        rw [Option.map_eq_some_iff] at he
        obtain ⟨r', h1, h2⟩ := he
        injection h2 with h2 h3
        subst h2 h3
        have hq := h q k (by simpa using hc)
        have hqe : ev s (.tmp q) = s.t q := rfl
        rw [hqe] at h1
        unfold effFieldAddr at h1
        split at h1
        · split at h1
          · cases h1
          · split at h1
            · rename_i hp; injection h1 with h1; subst h1; rw [hp] at hq; revert hq; cases k <;> simp [clsP]
            · rename_i hp; injection h1 with h1; subst h1; rw [hp] at hq; cases k <;> simp_all [clsP]
            · rename_i hp; injection h1 with h1; subst h1; rw [hp] at hq; cases k <;> simp_all [clsP]
            · cases h1
        · cases h1
      · rename_i hop
        have hnc : callOf o = none := by unfold callOf; simp only [hop]
        rw [hnc] at he
        simp only at he
        unfold Go.Proofs.Ytcphpbhngnnpmaa.eff at he
        simp only [hop] at he
        rw [Option.map_eq_some_iff] at he
        obtain ⟨r', h1, h2⟩ := he
        injection h2 with h2 h3
        subst h2 h3
        have hk : k = none := by simpa using hc
        subst hk
        unfold effIndexAddr at h1
        repeat' (split at h1)
        all_goals first | (injection h1 with h1; subst h1; rfl) | cases h1
      · rename_i hop
        have hnc : callOf o = none := by unfold callOf; simp only [hop]
        rw [hnc] at he
        simp only at he
        unfold Go.Proofs.Ytcphpbhngnnpmaa.eff at he
        simp only [hop] at he
        have hk : k = some t := by
          try rw [hd] at hc
          cases k with
          | none => simp at hc
          | some b => simpa using hc
        subst hk
        unfold effAlloc at he
        rw [hd] at he
        repeat' (split at he)
        all_goals first | (injection he with he; injection he with h1 h2; subst h1; rename_i h9 _; injection h9 with h9; subst h9; simp [clsP]; done) | (injection he with he; injection he with h1 h2; subst h1; simp_all [clsP]; done) | cases he
      · rename_i hop
        have hnc : callOf o = none := by unfold callOf; simp only [hop]
        rw [hnc] at he
        simp only at he
        unfold Go.Proofs.Ytcphpbhngnnpmaa.eff at he
        simp only [hop] at he
        have hk : k = some t := by
          try rw [hd] at hc
          cases k with
          | none => simp at hc
          | some b => simpa using hc
        subst hk
        unfold effBox at he
        rw [hd] at he
        repeat' (split at he)
        all_goals first | (injection he with he; injection he with h1 h2; subst h1; rename_i h9 _; injection h9 with h9; subst h9; simp [clsP]; done) | (injection he with he; injection he with h1 h2; subst h1; simp_all [clsP]; done) | cases he
      · cases hc
    · obtain ⟨rfl, rfl⟩ := he
      cases k <;> rfl
    · exact he.elim
  · exact h t k ht
/-- A load from a known box ahead of an append may come behind it. -/
theorem swapL {c : List (Nat × Option Nat)} {k i : Oper} {s : PS} {rk ri : PV} {uk ui : Option (Nat × Box)} (hcl : ClsOk c s) (hap : k.apart ops i = true) (ho : offA c k i = true) (h1 : Eff P ops k s rk uk) (h2 : Eff P ops i (s.upd k.dst rk uk) ri ui) :
    Eff P ops i s ri ui ∧ Eff P ops k (s.upd i.dst ri ui) rk uk ∧ (s.upd k.dst rk uk).upd i.dst ri ui = (s.upd i.dst ri ui).upd k.dst rk uk := by
  obtain ⟨a1, a2, a3⟩ := Oper.apart_spec hap
  unfold offA at ho
  simp only [Bool.and_eq_true] at ho
  obtain ⟨⟨hld, ha⟩, hc⟩ := ho
  have ti : ∀ t ∈ i.looksAt ops, (s.upd k.dst rk uk).t t = s.t t := fun t ht => upd_t (fun e => a1 t e ht)
  have tk : ∀ t ∈ k.looksAt ops, (s.upd i.dst ri ui).t t = s.t t := fun t ht => upd_t (fun e => a3 t e ht)
  have gi := guardB_same (s := s) (s' := s.upd k.dst rk uk) ti
  have gk := guardB_same (s := s) (s' := s.upd i.dst ri ui) tk
  have evi := evSame_of (s := s) (s' := s.upd k.dst rk uk) ti
  have evk := evSame_of (s := s) (s' := s.upd i.dst ri ui) tk
  unfold isLd at hld
  split at hld
  case h_2 => cases hld
  rename_i lt la hop
  have hck : callOf k = none := by unfold callOf; simp only [hop]
  -- the load lays nothing
  have huk : uk = none := by
    unfold Eff at h1
    split at h1
    · unfold EffW at h1
      rw [hck] at h1
      simp only at h1
      unfold Go.Proofs.Ytcphpbhngnnpmaa.eff at h1
      simp only [hop] at h1
      rw [Option.map_eq_some_iff] at h1
      obtain ⟨_, _, h4⟩ := h1
      injection h4 with _ h4
      exact h4.symm
    · exact h1.2
    · exact h1.elim
  subst huk
  have E2 : Eff P ops i s ri ui := by
    unfold Eff at h2 ⊢
    rw [gi] at h2
    split at h2
    · exact (effW_sameB (s := s) (s' := s.upd k.dst rk none) evi rfl).1 h2
    · exact h2
    · exact h2.elim
  refine ⟨E2, ?_, upd_comm a2 (fun x B y B' e1 _ => by cases e1)⟩
  -- what the append writes is no struct box
  have hu : ∀ x B, ui = some (x, B) → ∃ e m es', B = .rw e m es' ∧ (s.b x = none ∨ ∃ e m es, s.b x = some (.rw e m es)) := by
    intro x B hx
    obtain ⟨hci, _, happ⟩ := app_eff (P := P) (s := s) (r := ri) (u := ui) ha
    unfold Eff at E2
    split at E2
    · unfold EffW at E2
      rw [hci] at E2
      simp only at E2
      obtain ⟨c', px, py, t, _, _, happ1, _⟩ := happ E2
      obtain ⟨x', e, m, es', h3, h4⟩ := effAppend_row happ1
      rw [hx] at h3
      injection h3 with h3
      injection h3 with h3 h5
      subst h3
      exact ⟨e, m, es', h5, h4.imp (fun h => h.2) (fun ⟨es, h, _⟩ => ⟨_, _, es, h⟩)⟩
    · rw [E2.2] at hx; cases hx
    · exact E2.elim
  unfold Eff at h1 ⊢
  rw [gk]
  split at h1
  · unfold EffW at h1 ⊢
    rw [hck] at h1 ⊢
    simp only at h1 ⊢
    unfold Go.Proofs.Ytcphpbhngnnpmaa.eff at h1 ⊢
    simp only [hop] at h1 ⊢
    rw [evk la (by rw [hop]; simp [Op.operands])]
    rw [Option.map_eq_some_iff] at h1
    obtain ⟨r0, h3, h4⟩ := h1
    have hl : effLoad P (s.upd i.dst ri ui).b lt (ev s la) = some r0 := by
      unfold effLoad at h3 ⊢
      split at h3
      · rename_i ii cl hti hcl'
        have : addrP (s.upd i.dst ri ui).b (ev s la) = some cl := by
          cases la with
          | tmp t =>
            cases hct : clsOf c t with
            | none => simp [addrOp, hop, hct] at hc
            | some cc =>
              cases cc with
              | none => simp [addrOp, hop, hct] at hc
              | some b =>
                have hp := hcl t (some b) hct
                have ht : ev s (.tmp t) = s.t t := rfl
                rw [ht] at hcl' ⊢
                cases hpv : s.t t with
                | ptr z off =>
                  rw [hpv] at hcl'
                  simp only [addrP] at hcl' ⊢
                  cases ui with
                  | none => exact hcl'
                  | some xB =>
                    obtain ⟨x, B⟩ := xB
                    obtain ⟨e, m, es', rfl, h5⟩ := hu x B rfl
                    simp only [PS.upd]
                    by_cases e : z = x
                    · subst e
                      rcases h5 with h5 | ⟨_, _, _, h5⟩
                      · rw [h5] at hcl'; cases hcl'
                      · rw [h5] at hcl'; cases hcl'
                    · rw [bupd_ne _ _ e]; exact hcl'
                | junk => rw [hpv] at hcl'; cases hcl'
                | tup _ => rw [hpv] at hcl'; cases hcl'
                | _ => rw [hpv] at hp; cases hp
          | const _ => simp [addrOp, hop] at hc
          | _ => simp [addrOp, hop] at hc
        rw [hti, this]
        exact h3
      · cases h3
    rw [hl]
    exact h4 ▸ rfl
  · exact h1
  · exact h1.elim
theorem swap {c : List (Nat × Option Nat)} {k i : Oper} {s : PS} {rk ri : PV} {uk ui : Option (Nat × Box)} (hr : Rpr n s) (hcl : ClsOk c s) (hap : indepB c ops k i = true) (h1 : Eff P ops k s rk uk) (h2 : Eff P ops i (s.upd k.dst rk uk) ri ui) :
    Eff P ops i s ri ui ∧ Eff P ops k (s.upd i.dst ri ui) rk uk ∧ (s.upd k.dst rk uk).upd i.dst ri ui = (s.upd i.dst ri ui).upd k.dst rk uk := by
  unfold indepB at hap
  rcases (Bool.or_eq_true _ _).mp hap with h | h
  · rcases (Bool.or_eq_true _ _).mp h with h | h
    · rcases (Bool.or_eq_true _ _).mp h with h | h
      · exact swapO hr h h1 h2
      · simp only [Bool.and_eq_true, Bool.or_eq_true, beq_iff_eq] at h
        exact swapA hr h.1.1 h.1.2 h.2 h1 h2
    · simp only [Bool.and_eq_true, Bool.or_eq_true] at h
      exact swapS hr hcl h.1 h.2 h1 h2
  · simp only [Bool.and_eq_true] at h
    exact swapL hcl h.1 h.2 h1 h2

/-- The operations by their numbers. -/
def RunI (P : Program) (ops : Array Oper) : List Nat → PS → (PS → Prop) → Prop
  | [], s, K => K s
  | i :: l, s, K => ∃ o r u, ops[i]? = some o ∧ Eff P ops o s r u ∧ RunI P ops l (s.upd o.dst r u) K
theorem runI_of {K : PS → Prop} : ∀ (l : List Oper) (k : Nat) (s : PS), (∀ j, l[j]? = ops[k + j]?) → RunP P ops l s K → RunI P ops (List.range' k l.length) s K
  | [], k, s, _, h => h
  | o :: l, k, s, hl, h => by
    obtain ⟨r, u, h1, h2⟩ := h.step
    have h0 : ops[k]? = some o := by simpa using (hl 0).symm
    rw [List.length_cons, List.range'_succ]
    exact ⟨o, r, u, h0, h1, runI_of l (k + 1) _ (fun j => by have := hl (j + 1); simpa [Nat.add_assoc, Nat.add_comm 1 j] using this) h2⟩
/-- The i-th hangs on the k-th, by way of others too. -/
def hangs (ops : Array Oper) : Nat → Nat → Nat → Bool
  | 0, _, _ => false
  | f + 1, i, k => match ops[i]? with
    | none => false
    | some o => o.after.any fun e => Region.binds .any e && (e.on == k || hangs ops f e.on k)
def Closed (ops : Array Oper) (listed : Array Bool) : Prop := ∀ j, listed.getD j false = true → ∀ o, ops[j]? = some o → ∀ e ∈ o.after, Region.binds .any e = true → listed.getD e.on false = true
theorem hangs_done {ops : Array Oper} {listed : Array Bool} (hc : Closed ops listed) : ∀ (f i k : Nat), hangs ops f i k = true → (∀ o, ops[i]? = some o → ∀ e ∈ o.after, Region.binds .any e = true → listed.getD e.on false = true) → listed.getD k false = true
  | 0, _, _, h, _ => by cases h
  | f + 1, i, k, h, hi => by
    unfold hangs at h
    split at h
    · cases h
    · rename_i o ho
      rw [← Array.any_toList, List.any_eq_true] at h
      obtain ⟨e, he, h⟩ := h
      simp only [Bool.and_eq_true, Bool.or_eq_true, beq_iff_eq] at h
      have hd := hi o ho e (by simpa using he) h.1
      rcases h.2 with h2 | h2
      · rw [← h2]; exact hd
      · exact hangs_done hc f e.on k h2 (fun o' ho' => hc e.on hd o' ho')
/-- What a region must show: edges go back; what no edge binds may be turned about; slots lie in the frame. -/
def drawB (c : List (Nat × Option Nat)) (n : Nat) (ops : Array Oper) : Bool :=
  (List.range ops.size).all fun i => match ops[i]? with
    | none => true
    | some o => clsB c o && (match o.dst with | some d => decide (d < n) | none => true) && (o.after.all fun e => !Region.binds .any e || decide (e.on < i)) &&
        (List.range i).all fun k => match ops[k]? with
          | none => true
          | some x => indepB c ops x o || hangs ops 4 i k
theorem drawB_cls {c : List (Nat × Option Nat)} {n : Nat} {ops : Array Oper} (h : drawB c n ops = true) {i : Nat} {o : Oper} (hi : ops[i]? = some o) : clsB c o = true := by
  unfold drawB at h
  rw [List.all_eq_true] at h
  have h := h i (List.mem_range.2 (Array.getElem?_eq_some_iff.1 hi).1)
  rw [hi] at h
  simp only [Bool.and_eq_true] at h
  exact h.1.1.1
theorem drawB_spec {c : List (Nat × Option Nat)} {n : Nat} {ops : Array Oper} (h : drawB c n ops = true) {i : Nat} {o : Oper} (hi : ops[i]? = some o) :
    (∀ d, o.dst = some d → d < n) ∧ (∀ e ∈ o.after, Region.binds .any e = true → e.on < i) ∧ ∀ k x, k < i → ops[k]? = some x → hangs ops 4 i k = true ∨ indepB c ops x o = true := by
  unfold drawB at h
  rw [List.all_eq_true] at h
  have h := h i (List.mem_range.2 (Array.getElem?_eq_some_iff.1 hi).1)
  rw [hi] at h
  simp only [Bool.and_eq_true, List.all_eq_true] at h
  obtain ⟨⟨⟨_, h1⟩, h2⟩, h3⟩ := h
  refine ⟨fun d hd => by rw [hd] at h1; simpa using h1, fun e he hb => ?_, fun k x hk hx => ?_⟩
  · have := (Array.all_eq_true_iff_forall_mem.1 h2) e he
    rw [hb] at this
    simpa using this
  · have := h3 k (List.mem_range.2 hk)
    rw [hx] at this
    simp only [Bool.or_eq_true] at this
    exact this.symm
theorem move_front {c : List (Nat × Option Nat)} {K : PS → Prop} {i : Nat} {oi : Oper} (hoi : ops[i]? = some oi) (hB : drawB c n ops = true) : ∀ (l1 l2 : List Nat) (s : PS), Rpr n s → ClsOk c s → (∀ k ∈ l1, ∀ ok, ops[k]? = some ok → indepB c ops ok oi = true) → RunI P ops (l1 ++ i :: l2) s K → RunI P ops (i :: (l1 ++ l2)) s K
  | [], l2, s, _, _, _, h => h
  | k :: l1, l2, s, hr, hcl, hk, h => by
    obtain ⟨ok, rk, uk, hok, h1, h2⟩ := h
    have hd := (drawB_spec hB hok).1
    obtain ⟨o', ri, ui, ho', h3, h4⟩ := move_front hoi hB l1 l2 _ (hr.step h1 hd) (hcl.step (drawB_cls hB hok) h1) (fun j hj => hk j (by simp [hj])) h2
    rw [hoi] at ho'
    injection ho' with ho'
    subst ho'
    obtain ⟨e1, e2, e3⟩ := swap hr hcl (hk k (by simp) ok hok) h1 h3
    exact ⟨oi, ri, ui, hoi, e1, ok, rk, uk, hok, e2, by rw [← e3]; exact h4⟩
theorem any_ok {c : List (Nat × Option Nat)} {Qs : Exit → PS → Prop} (hQ : ∀ e s a w, Qs e s → Conc n w0 F0 s a w → Q e a w) (hB : drawB c n ops = true) : ∀ (m : Nat) (l : List Nat) (listed : Array Bool) (s : PS) (a : Act) (w : World), l.length = m → l.Pairwise (· < ·) → (∀ j, j ∈ l ↔ (j < ops.size ∧ listed.getD j true = false)) → listed.size = ops.size → Closed ops listed → ClsOk c s →
    RunI P ops l s (Qs .normal) → Conc n w0 F0 s a w → wpAny P .any ops Q m listed a w
  | 0, l, listed, s, a, w, hl, _, hm, hls, _, _, h, hc => by
    have : l = [] := List.eq_nil_of_length_eq_zero hl
    subst this
    refine ⟨?_, hQ _ s a w h hc⟩
    rw [List.eq_nil_iff_forall_not_mem]
    intro j hj
    obtain ⟨h1, o, h2, _⟩ := mem_ready.1 hj
    have := (hm j).2 ⟨(Array.getElem?_eq_some_iff.1 h2).1, h1⟩
    simp at this
  | m + 1, l, listed, s, a, w, hl, hs, hm, hls, hcl, hcls, h, hc => by
    refine ⟨fun h0 => ?_, fun i hi => ?_⟩
    · exfalso
      cases l with
      | nil => simp at hl
      | cons k l =>
        have hk := (hm k).1 (by simp)
        have hok : ops[k]? = some ops[k] := Array.getElem?_eq_getElem hk.1
        have : k ∈ Region.ready .any ops listed := by
          refine mem_ready.2 ⟨hk.2, _, hok, fun e he hb => ?_⟩
          have hlt := (drawB_spec hB hok).2.1 e he hb
          cases hx : listed.getD e.on false with
          | true => rfl
          | false =>
            exfalso
            have hsz : e.on < listed.size := by rw [hls]; omega
            have h2 : listed.getD e.on true = false := by
              simp [hsz] at hx ⊢; exact hx
            have := (hm e.on).2 ⟨by omega, h2⟩
            rcases List.mem_cons.1 this with h | h
            · omega
            · have := (List.pairwise_cons.1 hs).1 _ h
              omega
        rw [h0] at this
        cases this
    · obtain ⟨hun, oi, hoi, hall⟩ := mem_ready.1 hi
      have hin : i ∈ l := (hm i).2 ⟨(Array.getElem?_eq_some_iff.1 hoi).1, hun⟩
      obtain ⟨l1, l2, rfl⟩ := List.append_of_mem hin
      have hpw := List.pairwise_append.1 hs
      have hfront := move_front (P := P) (K := Qs .normal) hoi hB l1 l2 s ⟨w0, F0, a, w, hc⟩ hcls (fun k hk ok hok => by
        have hlt : k < i := hpw.2.2 k hk i (by simp)
        rcases (drawB_spec hB hoi).2.2 k ok hlt hok with hh | h
        · exfalso
          have h1 := hangs_done hcl 4 i k hh (fun o' ho' e he hb => by rw [hoi] at ho'; cases ho'; exact hall e he hb)
          have h2 := ((hm k).1 (by simp [hk])).2
          have hsz : k < listed.size := by
            rw [hls]; exact ((hm k).1 (by simp [hk])).1
          simp [hsz] at h1 h2
          rw [h1] at h2
          cases h2
        · exact h) h
      obtain ⟨o', r, u, ho', h1, h2⟩ := hfront
      rw [hoi] at ho'
      injection ho' with ho'
      subst ho'
      have hstep := op_ok (f := 0) (Q := Q) (K := wpAny P .any ops Q m (listed.setIfInBounds i true)) hc h1 (drawB_spec hB hoi).1 (fun a' w' hc' => by
        have hmono : ∀ j, listed.getD j false = true → (listed.setIfInBounds i true).getD j false = true := fun j hj => by
          by_cases hji : j = i
          · subst hji
            have hsz : j < listed.size := by rw [hls]; exact (Array.getElem?_eq_some_iff.1 hoi).1
            simp [hsz]
          · rw [getD_set_ne false (Ne.symm hji)]; exact hj
        refine any_ok hQ hB m (l1 ++ l2) _ _ a' w' (by simp at hl ⊢; omega) ?_ (fun j => ?_) (by simpa using hls) (fun j hj o ho e he hb => ?_) (hcls.step (drawB_cls hB hoi) h1) h2 hc'
        rotate_right
        · by_cases hji : j = i
          · subst hji
            rw [hoi] at ho
            cases ho
            exact hmono _ (hall e he hb)
          · rw [getD_set_ne false (Ne.symm hji)] at hj
            exact hmono _ (hcl j hj o ho e he hb)
        · have h3 := List.pairwise_cons.1 hpw.2.1
          exact List.pairwise_append.2 ⟨hpw.1, h3.2, fun x hx y hy => hpw.2.2 x hx y (by simp [hy])⟩
        · by_cases hji : j = i
          · subst hji
            have hsz : j < listed.size := by rw [hls]; exact (Array.getElem?_eq_some_iff.1 hoi).1
            refine ⟨fun hmem => ?_, fun ⟨_, hx⟩ => ?_⟩
            · exfalso
              rcases List.mem_append.1 hmem with h | h
              · have := hpw.2.2 j h j (by simp); omega
              · have := (List.pairwise_cons.1 hpw.2.1).1 j h; omega
            · simp [hsz] at hx
          · rw [getD_set_ne true (Ne.symm hji), ← hm j]
            simp [hji])
      unfold wpOp
      rw [hoi]
      simp only
      split
      · rename_i hw
        rw [if_pos hw] at hstep
        exact .inl hstep
      · rename_i hw
        rw [if_neg hw] at hstep
        exact hstep

theorem Conc.drew {s : PS} {a : Act} (h : Conc n w0 F0 s a w) (d : Nat) : Conc n w0 F0 s a { w with drawn := d } := by
  obtain ⟨h1, h2, ρ, F, hi, hev⟩ := h
  have hs : Stp ρ s.b w F ρ s.b { w with drawn := d } F := ⟨fun _ h => h, fun _ _ => rfl, fun _ ty cs h => ⟨⟨ty, cs, h⟩, rfl⟩, fun _ e _ es h => ⟨e, es, h, Nat.le_refl _, fun _ => rfl⟩⟩
  refine ⟨h1, h2, ρ, F, ⟨?_, hi.f0, hi.flt, hi.fnew, fun t B hb => (hi.box t B hb).mono hs rfl (fun _ _ => rfl) (fun g hg => ((hi.box t B hb).lt hg).2.2), hi.dist⟩, fun i => (hev i).mono hs⟩
  exact ⟨hi.ext.os, hi.ext.tape, hi.ext.output, hi.ext.size, hi.ext.block⟩
/-- **A region whose order is drawn.** -/
theorem pwp_draw (c : List (Nat × Option Nat)) {Qs : Exit → PS → Prop} {s : PS} {id : Nat} {l : List Oper} (hm : P.follows .mixedOrders = true) (hB : drawB c n l.toArray = true) (hcls : ClsOk c s) (h : RunP P l.toArray l s (Qs .normal)) : PWP P n (.region id l.toArray true) Qs s := by
  intro w0 F0 a w hc
  refine wp_region_any hm ?_
  refine any_ok (Qs := Qs) (fun _ s' _ _ h1 h2 => ⟨s', h1, h2⟩) hB l.toArray.size (List.range' 0 l.length) _ s a _ (by simp) List.pairwise_lt_range' (fun j => ?_) (by simp) (fun j hj => by exfalso; simp only [Array.getD_eq_getD_getElem?, Array.getElem?_replicate] at hj; split at hj <;> cases hj) hcls (runI_of l 0 s (fun j => by simp) h) (hc.drew _)
  simp only [List.mem_range'_1, Nat.zero_le, true_and, Nat.zero_add, List.size_toArray]
  refine ⟨fun h => ⟨h, by simp [h]⟩, fun h => h.1⟩
end
end Go.Proofs.Ytcphpbhngnnpmaa

/- The pure machine: functions; states as lists; what may be forgotten. -/
namespace Go.Proofs.Ytcphpbhngnnpmaa
open Go.RowKit

/-- What a result variable holds. -/
def resP (P : Program) (s : PS) : ResultVar → Option PV
  | .tmp t => some (s.t t)
  | .cell t ty => effLoad P s.b ty (s.t t)
def resAll (P : Program) (fn : Func) (s : PS) : Option PV :=
  match fn.results.toList.mapM (resP P s) with
  | some [p] => some p
  | some ps => some (.tup ps)
  | none => none
/-- How a function ends that answers r. -/
def RetP (P : Program) (fn : Func) (r : PV) (e : Exit) (s : PS) : Prop :=
  (match e with | .normal => True | .ret => True | _ => False) ∧ ∃ p, resAll P fn s = some p ∧ asData s.b p = r
def argsT (args : List PV) : Nat → PV := fun i => (args[i]?).getD .junk

section
variable {P : Program} {ρ ρ' : Nat → Value} {b b' : Nat → Option Box} {w w' w0 : World} {F F' F0 : Nat → Prop} {n : Nat}

theorem res_one {s : PS} {a : Act} (hi : Inv w0 F0 ρ s.b w F) (hev : ∀ i, PRep ρ s.b w F (a.tmps.getD i undef) (s.t i)) {x : ResultVar} {p : PV} (h : resP P s x = some p) :
    ∃ v, ((match x with | .tmp t => pure (a.tmps.getD t undef) | .cell i t => do loadVar t (← asAddr (a.tmps.getD i undef)) : Sem Value)).run P w = .ok v w ∧ PRep ρ s.b w F v p := by
  cases x with
  | tmp t =>
    simp only [resP] at h
    injection h with h
    subst h
    exact ⟨_, rfl, hev t⟩
  | cell t ty =>
    simp only [resP] at h
    have h0 := h
    unfold effLoad at h0
    split at h0
    · rename_i i cl hti hcl
      obtain ⟨ad, hx, _⟩ := addrP_reads hi (hev t) hcl
      obtain ⟨v, h1, h2⟩ := effLoad_ok hi (hev t) h
      refine ⟨v, ?_, h1⟩
      show (do loadVar ty (← asAddr (a.tmps.getD t undef)) : Sem Value).run P w = .ok v w
      rw [hx] at h2 ⊢
      simpa [Instr.loadAt, Instr.sureAddr, asAddr] using h2
    · cases h0
theorem res_all {s : PS} {a : Act} (hi : Inv w0 F0 ρ s.b w F) (hev : ∀ i, PRep ρ s.b w F (a.tmps.getD i undef) (s.t i)) : ∀ (l : List ResultVar) (ps : List PV), l.mapM (resP P s) = some ps →
    ∃ vs : List Value, (l.mapM (fun x => (match x with | .tmp t => pure (a.tmps.getD t undef) | .cell i t => do loadVar t (← asAddr (a.tmps.getD i undef)) : Sem Value))).run P w = .ok vs w ∧ Reps ρ s.b w F vs ps
  | [], ps, h => by simp at h; subst h; exact ⟨[], by simp, .nil⟩
  | x :: l, ps, h => by
    simp only [List.mapM_cons, Option.bind_eq_bind, Option.pure_def] at h
    cases hx : resP P s x with
    | none => simp [hx] at h
    | some p =>
      cases hl : l.mapM (resP P s) with
      | none => simp [hx, hl] at h
      | some ps' =>
        simp [hx, hl] at h
        subst h
        obtain ⟨v, h1, h2⟩ := res_one hi hev hx
        obtain ⟨vs, h3, h4⟩ := res_all hi hev l ps' hl
        refine ⟨v :: vs, ?_, .cons h2 h4⟩
        rw [List.mapM_cons]
        simp only [Sem.run_bind, h1, Result.andThen_ok, h3, Sem.run_pure]
theorem results_ok {fn : Func} {s : PS} {a : Act} {p : PV} (hi : Inv w0 F0 ρ s.b w F) (hev : ∀ i, PRep ρ s.b w F (a.tmps.getD i undef) (s.t i)) (h : resAll P fn s = some p) : ∃ v, (results fn a.tmps).run P w = .ok v w ∧ PRep ρ s.b w F v p := by
  unfold resAll at h
  have key : ∀ ps, fn.results.toList.mapM (resP P s) = some ps → ∃ vs : List Value, (fn.results.mapM (fun x => (match x with | .tmp t => pure (a.tmps.getD t undef) | .cell i t => do loadVar t (← asAddr (a.tmps.getD i undef)) : Sem Value))).run P w = .ok vs.toArray w ∧ Reps ρ s.b w F vs ps := by
    intro ps hps
    obtain ⟨vs, h1, h2⟩ := res_all hi hev _ ps hps
    refine ⟨vs, ?_, h2⟩
    rw [Array.mapM_eq_mapM_toList]
    rw [show ∀ (m : Sem (List Value)), (Functor.map List.toArray m) = (do let l ← m; pure l.toArray) from fun m => rfl]
    rw [Sem.run_bind, h1]
    rfl
  split at h
  · rename_i q hq
    injection h with h
    subst h
    obtain ⟨vs, h1, h2⟩ := key _ hq
    have hl := h2.len
    match vs, hl with
    | [v], _ =>
      refine ⟨v, ?_, h2.rep 0 v q rfl rfl⟩
      unfold results
      rw [Sem.run_bind]
      erw [h1]
      simp
  · rename_i ps hne hq
    injection h with h
    subst h
    obtain ⟨vs, h1, h2⟩ := key _ hq
    have hsz : ¬ vs.length = 1 := by
      rw [h2.len]
      intro h
      match ps, h with
      | [q], _ => exact hne q rfl
    refine ⟨.tuple vs.toArray, ?_, .tup _ _ (by simpa using h2.len) (fun j x c h3 h4 => h2.rep j x c (by simpa using h3) h4)⟩
    unfold results
    rw [Sem.run_bind]
    erw [h1]
    simp [hsz]
  · cases h

/-- **A function's contract, by its body.** -/
theorem pc_intro {f : FuncId} {fn : Func} {c : Code} {args : List PV} {r : PV} (hf : P.funcs[f]? = some fn) (hb : fn.body = some c) (hcb : callable P f = true) (hlen : args.length ≤ fn.ntmps)
    (h : PWP P fn.ntmps c (RetP P fn r) ⟨argsT args, bNone⟩) : PC P f args r := by
  refine ⟨hcb, fun w F vs hF hr => ?_⟩
  refine calls_of_wp hf hb ?_
  have hl : vs.size = args.length := by have := hr.len; simpa using this
  have hc : Conc fn.ntmps w F ⟨argsT args, bNone⟩ { tmps := vs ++ Array.replicate (fn.ntmps - vs.size) undef, defers := [] } w := by
    refine ⟨by simp; omega, rfl, ρNone, F, ⟨Ext.refl w, fun _ h => h, hF, fun _ h => .inl h, (fun t B h => by cases h), (fun t t' B B' g h => by cases h)⟩, fun i => ?_⟩
    by_cases hi : i < vs.size
    · have e1 : (vs ++ Array.replicate (fn.ntmps - vs.size) undef).getD i undef = vs[i] := by simp [Array.getElem?_append, hi]
      show PRep ρNone bNone w F _ (argsT args i)
      rw [e1]
      have hia : i < args.length := by omega
      unfold argsT
      rw [List.getElem?_eq_getElem hia]
      exact hr.rep i _ _ (by simp [hi]) (List.getElem?_eq_getElem hia)
    · show PRep ρNone bNone w F _ (argsT args i)
      unfold argsT
      rw [List.getElem?_eq_none (by omega)]
      exact .junk _
  refine wp_mono (h w F _ w hc) fun e a' w' ⟨s', ⟨hex, p, h1, h2⟩, _, hd, ρ, F', hi, hev⟩ => ?_
  obtain ⟨v, hv1, hv2⟩ := results_ok (P := P) hi hev h1
  have fin : a'.defers = [] ∧ ∃ v, (results fn a'.tmps).run P w' = .ok v w' ∧ ∃ v' F'', Ending.returned v = .returned v' ∧ Ext w w' ∧ (∀ g, F g → F'' g) ∧ (∀ g, F'' g → g < w'.heap.size) ∧ (∀ g, F'' g → F g ∨ w.heap.size ≤ g) ∧ PRep ρNone bNone w' F'' v' r := by
    refine ⟨hd, v, hv1, v, allF ρ s'.b F', rfl, hi.ext, fun g hg => .inl (hi.f0 g hg), ?_, ?_, ?_⟩
    · rintro g (hg | ⟨t, B, hb, hg⟩)
      · exact hi.flt g hg
      · exact ((hi.box t B hb).lt hg).1
    · rintro g (hg | ⟨t, B, hb, hg⟩)
      · exact hi.fnew g hg
      · exact .inr ((hi.box t B hb).lt hg).2.1
    · rw [← h2]
      exact hv2.asData hi
  cases e with
  | normal => exact fin
  | ret => exact fin
  | exit _ => exact hex.elim
  | goto _ => exact hex.elim
  | panic _ => exact hex.elim
  | outgrown => exact hex.elim

/-! ### States as lists -/
def lk : List (Nat × PV) → Nat → PV
  | [], _ => .junk
  | (j, p) :: l, i => if i = j then p else lk l i
def lkb : List (Nat × Box) → Nat → Option Box
  | [], _ => none
  | (j, p) :: l, i => if i = j then some p else lkb l i
def ins (l : List (Nat × PV)) (d : Nat) (p : PV) : List (Nat × PV) := (d, p) :: l
def insb : List (Nat × Box) → Nat → Box → List (Nat × Box)
  | [], d, p => [(d, p)]
  | (j, q) :: l, d, p => if d = j then (j, p) :: l else (j, q) :: insb l d p
/-- A state, slot by slot. -/
def St (l : List (Nat × PV)) (m : List (Nat × Box)) : PS := ⟨lk l, lkb m⟩
theorem lk_ins (d : Nat) (p : PV) (l : List (Nat × PV)) (i : Nat) : lk (ins l d p) i = if d = i then p else lk l i := by
  simp only [ins, lk]
  by_cases h : i = d
  · rw [if_pos h, if_pos h.symm]
  · rw [if_neg h, if_neg (Ne.symm h)]
theorem lkb_insb (d : Nat) (p : Box) : ∀ (l : List (Nat × Box)) (i : Nat), lkb (insb l d p) i = if i = d then some p else lkb l i
  | [], i => rfl
  | (j, q) :: l, i => by
    simp only [insb]
    split
    · rename_i h
      subst h
      simp only [lkb]
      by_cases h : i = d
      · rw [if_pos h, if_pos h]
      · rw [if_neg h, if_neg h, if_neg h]
    · rename_i h
      simp only [lkb, lkb_insb d p l i]
      by_cases h1 : i = j
      · subst h1
        rw [if_pos rfl, if_neg (Ne.symm h), if_pos rfl]
      · rw [if_neg h1, if_neg h1]
theorem upd_St (l : List (Nat × PV)) (m : List (Nat × Box)) (d : Nat) (r : PV) : (St l m).upd (some d) r none = St (ins l d r) m := by
  unfold St PS.upd
  congr 1
  funext i
  simp only [tupd, lk_ins, Option.some.injEq]
theorem upd_StB (l : List (Nat × PV)) (m : List (Nat × Box)) (d : Nat) (r : PV) (j : Nat) (B : Box) : (St l m).upd (some d) r (some (j, B)) = St (ins l d r) (insb m j B) := by
  unfold St PS.upd
  congr 1
  · funext i; simp only [tupd, lk_ins, Option.some.injEq]
  · funext i; simp only [bupd, lkb_insb]
theorem upd_StN (l : List (Nat × PV)) (m : List (Nat × Box)) (r : PV) (j : Nat) (B : Box) : (St l m).upd none r (some (j, B)) = St l (insb m j B) := by
  unfold St PS.upd
  congr 1
  · funext i; simp only [bupd, lkb_insb]
theorem upd_St0 (l : List (Nat × PV)) (m : List (Nat × Box)) (r : PV) : (St l m).upd none r none = St l m := rfl
theorem St_t (l : List (Nat × PV)) (m : List (Nat × Box)) (i : Nat) : (St l m).t i = lk l i := rfl
theorem St_b (l : List (Nat × PV)) (m : List (Nat × Box)) (i : Nat) : (St l m).b i = lkb m i := rfl
/-- The arguments in their slots. -/
def argL : Nat → List PV → List (Nat × PV)
  | _, [] => []
  | i, p :: ps => (i, p) :: argL (i + 1) ps
theorem lk_argL : ∀ (ps : List PV) (k i : Nat), lk (argL k ps) (k + i) = (ps[i]?).getD .junk
  | [], k, i => by simp [argL, lk]
  | p :: ps, k, 0 => by simp [argL, lk]
  | p :: ps, k, i + 1 => by
    simp only [argL, lk]
    rw [if_neg (by omega), show k + (i + 1) = k + 1 + i by omega, lk_argL ps (k + 1) i]
    simp
theorem start_St (args : List PV) : (⟨argsT args, bNone⟩ : PS) = St (argL 0 args) [] := by
  unfold St
  congr 1
  funext i
  have := lk_argL args 0 i
  rw [Nat.zero_add] at this
  rw [this]
  rfl
end
end Go.Proofs.Ytcphpbhngnnpmaa

/- The pure machine: what may be forgotten; nil as a row; rows that are frozen. -/
namespace Go.Proofs.Ytcphpbhngnnpmaa
open Go.RowKit

mutual
def refsIn (b : Nat → Option Box) : PV → Bool
  | .ptr t _ => (b t).isSome
  | .row t _ => (b t).isSome
  | .re t _ _ _ => (b t).isSome
  | .ag cs => refsIns b cs
  | .tup cs => refsIns b cs
  | _ => true
def refsIns (b : Nat → Option Box) : List PV → Bool
  | [] => true
  | c :: cs => refsIn b c && refsIns b cs
end
theorem refsIns_get {b : Nat → Option Box} : ∀ {cs : List PV} (_ : refsIns b cs = true) {j : Nat} {c : PV}, cs[j]? = some c → refsIn b c = true
  | [], _, j, c, h => by simp at h
  | d :: cs, h, j, c, hj => by
    simp only [refsIns, Bool.and_eq_true] at h
    cases j with
    | zero => simp at hj; subst hj; exact h.1
    | succ j => simp at hj; exact refsIns_get h.2 hj
theorem refsIns_d (b : Nat → Option Box) : ∀ ds : List D, refsIns b (ds.map .d) = true
  | [] => rfl
  | d :: ds => by simp [refsIns, refsIn, refsIns_d b ds]

section
variable {P : Program} {ρ ρ' : Nat → Value} {b b' : Nat → Option Box} {w w' w0 : World} {F F' F0 : Nat → Prop} {n : Nat} {Qs : Exit → PS → Prop} {c : Code}

theorem PRep.less {x : Value} {p : PV} (h : PRep ρ b w F x p) (hb : ∀ t B, b' t = some B → b t = some B) : refsIn b' p = true → PRep ρ b' w F x p := by
  have look : ∀ {t : Nat} {B : Box}, b t = some B → (b' t).isSome = true → b' t = some B := by
    intro t B h h2
    rw [Option.isSome_iff_exists] at h2
    obtain ⟨B', h2⟩ := h2
    have := hb t B' h2
    rw [h] at this
    injection this with this
    rw [h2, this]
  induction h with
  | junk x => exact fun _ => .junk x
  | d x d h => exact fun _ => .d x d h
  | ag xs cs hl h1 hr ih => exact fun hc => .ag xs cs hl h1 (fun j x c h2 h3 => ih j x c h2 h3 (refsIns_get (by simpa [refsIn] using hc) h3))
  | tup xs cs hl hr ih => exact fun hc => .tup xs cs hl (fun j x c h2 h3 => ih j x c h2 h3 (refsIns_get (by simpa [refsIn] using hc) h3))
  | ptr t off g ty cs hb hρ => exact fun hc => .ptr t off g ty cs (look hb (by simpa [refsIn] using hc)) hρ
  | row t n A c e k es hb hn hcc hA hρ => exact fun hc => .row t n A c e k es (look hb (by simpa [refsIn] using hc)) hn hcc hA hρ
  | re t n i off a e k es hb hn hi hρ => exact fun hc => .re t n i off a e k es (look hb (by simpa [refsIn] using hc)) hn hi hρ
  | fe a cs us hF hcell hrep => exact fun _ => .fe a cs us hF hcell hrep
def boxRefs (b : Nat → Option Box) : Box → Bool
  | .st _ cs => refsIns b cs
  | .rw _ _ _ => true
/-- Slots and boxes may be forgotten. -/
theorem Conc.less {s s' : PS} {a : Act} (h : Conc n w0 F0 s a w) (ht : ∀ i, s'.t i = .junk ∨ (s'.t i = s.t i ∧ refsIn s'.b (s.t i) = true)) (hb : ∀ t B, s'.b t = some B → s.b t = some B ∧ boxRefs s'.b B = true) : Conc n w0 F0 s' a w := by
  obtain ⟨h1, h2, ρ, F, hi, hev⟩ := h
  have hb1 : ∀ t B, s'.b t = some B → s.b t = some B := fun t B h => (hb t B h).1
  refine ⟨h1, h2, ρ, F, ⟨hi.ext, hi.f0, hi.flt, hi.fnew, fun t B h => ?_, fun t t' B B' g k1 k2 => hi.dist t t' B B' g (hb1 _ _ k1) (hb1 _ _ k2)⟩, fun i => ?_⟩
  · have h3 := (hb t B h).2
    cases hi.box t B (hb1 t B h) with
    | st ty cs g xs hρ hg hF hh hl h1 hr => exact .st ty cs g xs hρ hg hF hh hl h1 (fun j x c k1 k2 => (hr j x c k1 k2).less hb1 (refsIns_get (by simpa [boxRefs] using h3) k2))
    | rw e k es xs hk0 ho hF hk hl hr => exact .rw e k es xs hk0 ho hF hk hl hr
  · rcases ht i with h | ⟨h, h3⟩
    · rw [h]; exact .junk _
    · rw [h]; exact (hev i).less hb1 h3
def keepL {α : Type} (ks : List Nat) : List (Nat × α) → List (Nat × α)
  | [] => []
  | (i, p) :: l => if i ∈ ks then (i, p) :: keepL ks l else keepL ks l
def refsL (b : Nat → Option Box) : List (Nat × PV) → Bool
  | [] => true
  | (_, p) :: l => refsIn b p && refsL b l
def boxesL (b : Nat → Option Box) : List (Nat × Box) → Bool
  | [] => true
  | (_, B) :: l => boxRefs b B && boxesL b l
/-- These slots, in this order. -/
def keepS (ks : List Nat) (l : List (Nat × PV)) : List (Nat × PV) := ks.map fun i => (i, lk l i)
theorem lk_keep : ∀ (ks : List Nat) (l : List (Nat × PV)) (i : Nat), (i ∈ ks → lk (keepS ks l) i = lk l i) ∧ (i ∉ ks → lk (keepS ks l) i = .junk)
  | [], l, i => ⟨fun h => absurd h List.not_mem_nil, fun _ => rfl⟩
  | k :: ks, l, i => by
    obtain ⟨h1, h2⟩ := lk_keep ks l i
    unfold keepS at h1 h2 ⊢
    simp only [List.map_cons, lk]
    by_cases h : i = k
    · subst h
      simp
    · rw [if_neg h]
      exact ⟨fun hm => h1 ((List.mem_cons.1 hm).resolve_left h), fun hm => h2 fun e => hm (List.mem_cons_of_mem _ e)⟩
theorem lkb_keep (ks : List Nat) : ∀ (l : List (Nat × Box)) (i : Nat) (B : Box), lkb (keepL ks l) i = some B → lkb l i = some B
  | [], i, B, h => by cases h
  | (j, p) :: l, i, B, h => by
    simp only [keepL] at h
    split at h
    · rename_i hj
      simp only [lkb] at h ⊢
      split at h
      · rename_i hij; rw [if_pos hij]; exact h
      · rename_i hij; rw [if_neg hij]; exact lkb_keep ks l i B h
    · rename_i hj
      simp only [lkb]
      by_cases hij : i = j
      · subst hij
        exfalso
        have : ∀ (l : List (Nat × Box)), lkb (keepL ks l) i = none := by
          intro l
          induction l with
          | nil => rfl
          | cons x l ih =>
            obtain ⟨j, q⟩ := x
            simp only [keepL]
            split
            · rename_i hj2
              simp only [lkb]
              rw [if_neg (fun (e : i = j) => hj (e ▸ hj2))]
              exact ih
            · exact ih
        rw [this] at h
        cases h
      · rw [if_neg hij]; exact lkb_keep ks l i B h
theorem refsL_get {b : Nat → Option Box} : ∀ {l : List (Nat × PV)} (_ : refsL b l = true) (i : Nat), refsIn b (lk l i) = true
  | [], _, i => rfl
  | (j, p) :: l, h, i => by
    simp only [refsL, Bool.and_eq_true] at h
    simp only [lk]
    split
    · exact h.1
    · exact refsL_get h.2 i
theorem boxesL_get {b : Nat → Option Box} : ∀ {l : List (Nat × Box)} (_ : boxesL b l = true) (i : Nat) (B : Box), lkb l i = some B → boxRefs b B = true
  | [], _, i, B, h => by cases h
  | (j, p) :: l, h, i, B, hB => by
    simp only [boxesL, Bool.and_eq_true] at h
    simp only [lkb] at hB
    split at hB
    · injection hB with hB; subst hB; exact h.1
    · exact boxesL_get h.2 i B hB
/-- Keep these slots and boxes. -/
theorem conc_keep (ks bs : List Nat) {l : List (Nat × PV)} {m : List (Nat × Box)} {a : Act} (h1 : refsL (lkb (keepL bs m)) (keepS ks l) = true) (h2 : boxesL (lkb (keepL bs m)) (keepL bs m) = true) (h : Conc n w0 F0 (St l m) a w) : Conc n w0 F0 (St (keepS ks l) (keepL bs m)) a w := by
  refine h.less (fun i => ?_) (fun t B hB => ⟨lkb_keep bs m t B hB, boxesL_get h2 t B hB⟩)
  by_cases hi : i ∈ ks
  · have := (lk_keep ks l i).1 hi
    refine .inr ⟨this, ?_⟩
    have hr := refsL_get h1 i
    rw [this] at hr
    exact hr
  · exact .inl ((lk_keep ks l i).2 hi)
theorem pwp_keep (ks bs : List Nat) {l : List (Nat × PV)} {m : List (Nat × Box)} (h1 : refsL (lkb (keepL bs m)) (keepS ks l) = true) (h2 : boxesL (lkb (keepL bs m)) (keepL bs m) = true) (h : PWP P n c Qs (St (keepS ks l) (keepL bs m))) : PWP P n c Qs (St l m) :=
  fun w0 F0 a w hc => h w0 F0 a w (conc_keep ks bs h1 h2 hc)

/-- Only these slots are read later: the others are forgotten. -/
theorem pwp_live (ks : List Nat) {l : List (Nat × PV)} {m : List (Nat × Box)} (h : PWP P n c Qs (St (keepS ks l) m)) : PWP P n c Qs (St l m) := by
  intro w0 F0 a w hc
  refine h w0 F0 a w ?_
  obtain ⟨h1, h2, ρ, F, hi, hp⟩ := hc
  refine ⟨h1, h2, ρ, F, hi, fun i => ?_⟩
  by_cases hm : i ∈ ks
  · have := (lk_keep ks l i).1 hm
    show PRep ρ _ w F _ (lk (keepS ks l) i)
    rw [this]
    exact hp i
  · have := (lk_keep ks l i).2 hm
    show PRep ρ _ w F _ (lk (keepS ks l) i)
    rw [this]
    exact .junk _

/-- Slots and boxes are forgotten in a state that is to be met. -/
structure Kept (ks bs : List Nat) (l : List (Nat × PV)) (m : List (Nat × Box)) : Prop where
  h1 : refsL (lkb (keepL bs m)) (keepS ks l) = true
  h2 : boxesL (lkb (keepL bs m)) (keepL bs m) = true
/-! ### The rules again, what follows under a name -/
variable {s : PS}
theorem pwp_seq_k {x y : Code} (h : ∀ K : Exit → PS → Prop, (∀ s, PWP P n y Qs s → K .normal s) → True → (∀ e s, e ≠ .normal → Qs e s → K e s) → PWP P n x K s) : PWP P n (.seq x y) Qs s :=
  pwp_seq (h _ (fun _ h => h) trivial (fun e s he h => by cases e <;> first | exact absurd rfl he | exact h))
theorem pwp_block_k {id : Nat} {x : Code} (h : ∀ K : Exit → PS → Prop, (∀ s, Qs .normal s → K .normal s) → (∀ s, Qs .normal s → K (.exit id) s) → (∀ e s, e ≠ .normal → e ≠ .exit id → Qs e s → K e s) → PWP P n x K s) : PWP P n (.block id x) Qs s :=
  pwp_block (h _ (fun _ h => h) (fun _ h => by simpa [inBlockP] using h) (fun e s he hi h => by
    cases e with
    | normal => exact absurd rfl he
    | exit id' =>
      simp only [inBlockP]
      rw [if_neg (fun e => hi (by rw [e]))]
      exact h
    | _ => exact h))
theorem pwp_loopW {ks bs : List Nat} {x : Code} (I : PS → Nat → Prop) (m0 : Nat) (h0 : I s m0) (round : ∀ s m, I s m → PWP P n x (thenP (fun s' => ∃ s'', (∀ n w0 F0 a w, Conc n w0 F0 s' a w → Conc n w0 F0 s'' a w) ∧ ∃ m', I s'' m' ∧ m' < m) Qs) s) : PWP P n (.loop x) Qs s := by
  intro w0 F0 a w hc
  refine wp_loop_ghost (fun m a' w' => ∃ s', I s' m ∧ Conc n w0 F0 s' a' w') m0 ⟨s, h0, hc⟩ (fun m a' w' ⟨s', h1, h2⟩ => ?_)
  refine wp_mono (round s' m h1 w0 F0 a' w' h2) fun e a2 w2 ⟨s2, h3, h4⟩ => ?_
  cases e with
  | normal =>
    obtain ⟨s3, h5, m', h6, h7⟩ := h3
    exact ⟨m', h7, s3, h6, h5 _ _ _ _ _ h4⟩
  | _ => exact ⟨s2, h3, h4⟩
theorem pwp_loop_k (ks bs : List Nat) {x : Code} (I : List (Nat × PV) → List (Nat × Box) → Nat → Prop) {l : List (Nat × PV)} {m : List (Nat × Box)} (m0 : Nat) (hk : Kept ks bs l m) (h0 : I (keepS ks l) (keepL bs m) m0)
    (round : ∀ l m c, I l m c → ∀ K : Exit → PS → Prop, (∀ l' m' c', Kept ks bs l' m' → I (keepS ks l') (keepL bs m') c' → c' < c → K .normal (St l' m')) → True → (∀ e s, e ≠ .normal → Qs e s → K e s) → PWP P n x K (St l m)) : PWP P n (.loop x) Qs (St l m) := by
  refine pwp_keep ks bs hk.h1 hk.h2 ?_
  refine fun w0 F0 a w hc => ?_
  refine pwp_loopW (fun s c => ∃ l m, s = St l m ∧ I l m c) (ks := ks) (bs := bs) m0 ⟨_, _, rfl, h0⟩ ?_ w0 F0 a w hc
  rintro s c ⟨l, m, rfl, hI⟩
  refine round l m c hI _ (fun l' m' c' hk' hI' hlt => ?_) trivial (fun e s he h => by cases e <;> first | exact absurd rfl he | exact h)
  exact ⟨St (keepS ks l') (keepL bs m'), fun n w0 F0 a w h => conc_keep ks bs hk'.h1 hk'.h2 h, c', ⟨_, _, rfl, hI'⟩, hlt⟩
theorem pwp_condT {cd : Operand} {x y : Code} (ht : asB (ev s cd) = some true) (h : PWP P n x Qs s) : PWP P n (.cond cd x y) Qs s := pwp_cond true ht h
theorem pwp_condF {cd : Operand} {x y : Code} (ht : asB (ev s cd) = some false) (h : PWP P n y Qs s) : PWP P n (.cond cd x y) Qs s := pwp_cond false ht h
/-- A nil slice in a slot, as a row of the call's own. -/
theorem pwp_nilrow (i e k : Nat) {l : List (Nat × PV)} {m : List (Nat × Box)} (ht : lk l i = .d (.v (.slice none 0 0))) (hb : lkb m i = none) (hk : 0 < k) (h : PWP P n c Qs (St (ins l i (.row i 0)) (insb m i (.rw e k [])))) : PWP P n c Qs (St l m) := by
  refine fun w0 F0 a w hc => h w0 F0 a w ?_
  obtain ⟨h1, h2, ρ, F, hi, hev⟩ := hc
  have hx := (hev i)
  rw [show (St l m).t i = lk l i from rfl, ht] at hx
  obtain ⟨hx, _⟩ := hx.vv
  have hnew := newRw (P := default) (t := i) (e := e) (k := k) (es := []) (xs := []) (v := .slice none 0 0) (w' := w) hi (show (St l m).b i = none from hb) hk (Ext.refl w) (fun g hg => by cases hg) (World.ownsRow_nil w _ e k) (by simp) rfl (by simp)
  obtain ⟨v, w', ρ', hok, k1, k2, k3⟩ := hnew
  injection hok with e1 e2
  subst e1 e2
  rw [← upd_StB]
  refine ⟨h1, h2, ρ', F, k1, fun j => ?_⟩
  by_cases hj : i = j
  · subst hj
    rw [hx]
    simpa [PS.upd, tupd] using k3
  · have : ((St l m).upd (some i) (.row i 0) (some (i, .rw e k []))).t j = (St l m).t j := by simp [PS.upd, tupd, hj]
    rw [this]
    exact (hev j).mono k2

/-! ### A row is frozen: from here on it is data -/
end
mutual
def frz (t : Nat) (es : List (List D)) : PV → PV
  | .row t' m => if t' = t then (if m = es.length then .d (.sl es) else .junk) else .row t' m
  | .re t' m i o => if t' = t then .junk else .re t' m i o
  | .ag cs => .ag (frzs t es cs)
  | .tup cs => .tup (frzs t es cs)
  | p => p
def frzs (t : Nat) (es : List (List D)) : List PV → List PV
  | [] => []
  | c :: cs => frz t es c :: frzs t es cs
end
def frzBox (t : Nat) (es : List (List D)) : Box → Box
  | .st ty cs => .st ty (frzs t es cs)
  | B => B
def frzL (t : Nat) (es : List (List D)) : List (Nat × PV) → List (Nat × PV)
  | [] => []
  | (i, p) :: l => (i, frz t es p) :: frzL t es l
def frzM (t : Nat) (es : List (List D)) : List (Nat × Box) → List (Nat × Box)
  | [] => []
  | (i, B) :: l => if i = t then frzM t es l else (i, frzBox t es B) :: frzM t es l
section
variable {P : Program} {ρ ρ' : Nat → Value} {b b' : Nat → Option Box} {w w' w0 : World} {F F' F0 : Nat → Prop} {n : Nat} {Qs : Exit → PS → Prop} {c : Code}
theorem frzs_len (t : Nat) (es : List (List D)) : ∀ cs : List PV, (frzs t es cs).length = cs.length
  | [] => rfl
  | c :: cs => by simp [frzs, frzs_len t es cs]
theorem frzs_get (t : Nat) (es : List (List D)) : ∀ (cs : List PV) (j : Nat) (c : PV), (frzs t es cs)[j]? = some c → ∃ d, cs[j]? = some d ∧ c = frz t es d
  | [], j, c, h => by simp [frzs] at h
  | d :: cs, j, c, h => by
    simp only [frzs] at h
    cases j with
    | zero => simp at h; exact ⟨d, rfl, h.symm⟩
    | succ j => simp at h; simpa using frzs_get t es cs j c h
theorem lk_frz (t : Nat) (es : List (List D)) : ∀ (l : List (Nat × PV)) (i : Nat), lk (frzL t es l) i = frz t es (lk l i)
  | [], i => rfl
  | (j, p) :: l, i => by
    simp only [frzL, lk]
    split
    · rfl
    · exact lk_frz t es l i
theorem lkb_frz (t : Nat) (es : List (List D)) : ∀ (m : List (Nat × Box)) (i : Nat), lkb (frzM t es m) i = if i = t then none else (lkb m i).map (frzBox t es)
  | [], i => by simp [frzM, lkb]
  | (j, B) :: m, i => by
    simp only [frzM]
    split
    · rename_i hj
      rw [lkb_frz t es m i]
      simp only [lkb]
      by_cases hi : i = t
      · rw [if_pos hi, if_pos hi]
      · rw [if_neg hi, if_neg hi, if_neg (by omega)]
    · rename_i hj
      simp only [lkb, lkb_frz t es m i]
      by_cases hij : i = j
      · subst hij; simp [hj]
      · rw [if_neg hij, if_neg hij]
theorem PRep.frz {x : Value} {p : PV} {t e k : Nat} {es : List (List D)} (hi : Inv w0 F0 ρ b w F) (hb : b t = some (.rw e k es)) (hb' : ∀ i, b' i = if i = t then none else (b i).map (frzBox t es)) (h : PRep ρ b w F x p) :
    PRep ρ b' w (fun g => F g ∨ blk (ρ t) = some g) x (Go.Proofs.Ytcphpbhngnnpmaa.frz t es p) := by
  have hF : ∀ g, F g → (F g ∨ blk (ρ t) = some g) := fun g h => .inl h
  induction h with
  | junk x => exact .junk x
  | d x d h => exact .d x d (h.mono hF (fun _ _ => rfl))
  | ag xs cs hl h1 hr ih =>
    refine .ag xs _ (by rw [frzs_len]; exact hl) h1 (fun j x c h2 h3 => ?_)
    obtain ⟨d, h4, rfl⟩ := frzs_get t es cs j c h3
    exact ih j x d h2 h4
  | tup xs cs hl hr ih =>
    refine .tup xs _ (by rw [frzs_len]; exact hl) (fun j x c h2 h3 => ?_)
    obtain ⟨d, h4, rfl⟩ := frzs_get t es cs j c h3
    exact ih j x d h2 h4
  | ptr t' off g ty cs hb2 hρ =>
    have : t' ≠ t := fun e => by rw [e, hb] at hb2; cases hb2
    exact .ptr t' off g ty _ (by rw [hb', if_neg this, hb2]; rfl) hρ
  | row t' m A cc e' k' es' hb2 hn hc hA hρ =>
    simp only [Go.Proofs.Ytcphpbhngnnpmaa.frz]
    by_cases ht : t' = t
    · subst ht
      rw [if_pos rfl]
      rw [hb] at hb2
      injection hb2 with hb2
      injection hb2 with e1 e2 e3
      subst e1 e2 e3
      split
      · rename_i hm
        have := row_data hi hb (.row t' m A cc e k es hb hn hc hA hρ) hm.symm
        refine .d _ _ ?_
        have hr := asSl_reads hi (.row t' m A cc e k es hb hn hc hA hρ) (show asSl b (.row t' m) = some es by simp [asSl, hb, hm])
        obtain ⟨A2, c2, k2, e4, hc2, hm2, hk2, hA2, hcell2⟩ := hr
        injection e4 with e5 e6 e7
        subst e5 e7
        cases A with
        | none =>
          obtain ⟨rfl, rfl⟩ := hA2 rfl
          simp at hm
          subst hm
          exact .sl none 0 0 0 [] (fun _ => undef) rfl (Nat.le_refl _) (by simp [maxLen]) (by simp) (by omega) (fun _ => rfl) (by simp) (by simp)
        | some a =>
          have hcell2 := hcell2 a rfl
          refine .sl (some a) m cc k2 es (fun j => (w.cell? (a.add j)).getD undef) hm hc hm2 hk2 (fun _ => ⟨a, rfl, .inr (by rw [hρ hm.symm]; rfl)⟩) (fun h => by cases h) (fun a' j d ha' hj => ?_) (fun j d hj => ?_)
          · injection ha' with ha'
            subst ha'
            obtain ⟨u, h1, _⟩ := hcell2 j d hj
            rw [h1]; rfl
          · obtain ⟨u, h1, h2⟩ := hcell2 j d hj
            rw [h1]
            exact h2.mono hF (fun _ _ => rfl)
      · exact .junk _
    · rw [if_neg ht]
      exact .row t' m A cc e' k' es' (by rw [hb', if_neg ht, hb2]; rfl) hn hc hA hρ
  | re t' m i o a e' k' es' hb2 hn hi' hρ =>
    simp only [Go.Proofs.Ytcphpbhngnnpmaa.frz]
    by_cases ht : t' = t
    · rw [if_pos ht]; exact .junk _
    · rw [if_neg ht]
      exact .re t' m i o a e' k' es' (by rw [hb', if_neg ht, hb2]; rfl) hn hi' hρ
  | fe a cs us hF' hcell hrep => exact .fe a cs us (.inl hF') hcell (fun j d h => (hrep j d h).mono hF (fun _ _ => rfl))
theorem PRep.dd {x : Value} {d : D} (h : PRep ρ b w F x (.d d)) : DRep w F x d := by
  cases h with
  | d _ _ h => exact h
theorem conc_freeze (t : Nat) {e k : Nat} {es : List (List D)} {l : List (Nat × PV)} {m : List (Nat × Box)} {a : Act} (hb : lkb m t = some (.rw e k es)) (h : Conc n w0 F0 (St l m) a w) : Conc n w0 F0 (St (frzL t es l) (frzM t es m)) a w := by
  obtain ⟨h1, h2, ρ, F, hi, hev⟩ := h
  have hb0 : (St l m).b t = some (.rw e k es) := hb
  have hb' : ∀ i, (St (frzL t es l) (frzM t es m)).b i = if i = t then none else ((St l m).b i).map (frzBox t es) := fun i => lkb_frz t es m i
  have hbt := (hi.box t _ hb0)
  refine ⟨h1, h2, ρ, fun g => F g ∨ blk (ρ t) = some g, ⟨hi.ext, fun g hg => .inl (hi.f0 g hg), ?_, ?_, fun t' B h => ?_, fun t1 t2 B1 B2 g k1 k2 hne => ?_⟩, fun i => ?_⟩
  · rintro g (hg | hg)
    · exact hi.flt g hg
    · exact (hbt.lt hg).1
  · rintro g (hg | hg)
    · exact hi.fnew g hg
    · exact .inr (hbt.lt hg).2.1
  · rw [hb'] at h
    split at h
    · cases h
    · rename_i ht
      rw [Option.map_eq_some_iff] at h
      obtain ⟨B0, hB0, rfl⟩ := h
      have hnF : ∀ g, blk (ρ t') = some g → ¬ (F g ∨ blk (ρ t) = some g) := by
        rintro g hg (h | h)
        · exact ((hi.box t' B0 hB0).lt hg).2.2 h
        · exact hi.dist t' t B0 _ g hB0 hb0 ht hg h
      cases hi.box t' B0 hB0 with
      | st ty cs g xs hρ hg hF hh hl h1 hr =>
        refine .st ty _ g xs hρ hg (hnF g (by rw [hρ]; rfl)) hh (by rw [frzs_len]; exact hl) h1 (fun j x c k1 k2 => ?_)
        obtain ⟨d, h4, rfl⟩ := frzs_get t es cs j c k2
        exact (hr j x d k1 h4).frz hi hb0 hb'
      | rw e' k' es' xs hk0 ho hF hk hl hr => exact .rw e' k' es' xs hk0 ho hnF hk hl (fun j x d k1 k2 => (hr j x d k1 k2).mono (fun g h => .inl h) (fun _ _ => rfl))
  · rw [hb'] at k1 k2
    split at k1
    · cases k1
    · split at k2
      · cases k2
      · rw [Option.map_eq_some_iff] at k1 k2
        obtain ⟨B1', k1, _⟩ := k1
        obtain ⟨B2', k2, _⟩ := k2
        exact hi.dist t1 t2 B1' B2' g k1 k2 hne
  · rw [show (St (frzL t es l) (frzM t es m)).t i = frz t es ((St l m).t i) from lk_frz t es l i]
    exact (hev i).frz hi hb0 hb'
theorem pwp_freeze (t : Nat) {e k : Nat} {es : List (List D)} {l : List (Nat × PV)} {m : List (Nat × Box)} (hb : lkb m t = some (.rw e k es)) (h : PWP P n c Qs (St (frzL t es l) (frzM t es m))) : PWP P n c Qs (St l m) :=
  fun w0 F0 a w hc => h w0 F0 a w (conc_freeze t hb hc)
/-- A nil slice in a slot, as data. -/
theorem conc_nil (i : Nat) {l : List (Nat × PV)} {m : List (Nat × Box)} {a : Act} (ht : lk l i = .d (.v (.slice none 0 0))) (h : Conc n w0 F0 (St l m) a w) : Conc n w0 F0 (St (ins l i (.d (.sl []))) m) a w := by
  obtain ⟨h1, h2, ρ, F, hi, hev⟩ := h
  refine ⟨h1, h2, ρ, F, hi, fun j => ?_⟩
  rw [← upd_St]
  by_cases hj : i = j
  · subst hj
    have := hev i
    rw [show (St l m).t i = lk l i from rfl, ht] at this
    have h3 : DRep w F (a.tmps.getD i undef) (.v (.slice none 0 0)) := this.dd
    have h4 : ((St l m).upd (some i) (.d (.sl [])) none).t i = .d (.sl []) := by simp [PS.upd, tupd]
    rw [h4]
    exact .d _ _ h3.nrm
  · have : ((St l m).upd (some i) (.d (.sl [])) none).t j = (St l m).t j := by simp [PS.upd, tupd, hj]
    rw [this]
    exact hev j
theorem pwp_nil (i : Nat) {l : List (Nat × PV)} {m : List (Nat × Box)} (ht : lk l i = .d (.v (.slice none 0 0))) (h : PWP P n c Qs (St (ins l i (.d (.sl []))) m)) : PWP P n c Qs (St l m) :=
  fun w0 F0 a w hc => h w0 F0 a w (conc_nil i ht hc)
/-- A loop: what is kept at its head, and what each round makes of it. -/
theorem pwp_loop_i (ks bs : List Nat) {x : Code} (I : List (Nat × PV) → List (Nat × Box) → List (Nat × PV) → List (Nat × Box) → Nat → Prop) {l : List (Nat × PV)} {m : List (Nat × Box)} (m0 : Nat) (hk : Kept ks bs l m) (h0 : I (keepS ks l) (keepL bs m) (keepS ks l) (keepL bs m) m0)
    (round : ∀ l1 m1 c, I (keepS ks l) (keepL bs m) l1 m1 c → ∀ K : Exit → PS → Prop, (∀ l' m' c', Kept ks bs l' m' → I (keepS ks l) (keepL bs m) (keepS ks l') (keepL bs m') c' → c' < c → K .normal (St l' m')) → True → (∀ e s, e ≠ .normal → Qs e s → K e s) → PWP P n x K (St l1 m1)) : PWP P n (.loop x) Qs (St l m) :=
  pwp_loop_k ks bs (I (keepS ks l) (keepL bs m)) m0 hk h0 round
/-- Where ways meet. -/
theorem pwp_cut (ks bs : List Nat) {x y : Code} (I : List (Nat × PV) → List (Nat × Box) → List (Nat × PV) → List (Nat × Box) → Prop) {l : List (Nat × PV)} {m : List (Nat × Box)} (hx : ∀ K : Exit → PS → Prop, (∀ l' m', Kept ks bs l' m' → I l m (keepS ks l') (keepL bs m') → K .normal (St l' m')) → True → (∀ e s, e ≠ .normal → Qs e s → K e s) → PWP P n x K (St l m))
    (hy : ∀ l' m', I l m l' m' → PWP P n y Qs (St l' m')) : PWP P n (.seq x y) Qs (St l m) := by
  refine pwp_seq ?_
  refine hx _ (fun l' m' hk hI => ?_) trivial (fun e s he h => by cases e <;> first | exact absurd rfl he | exact h)
  exact pwp_keep ks bs hk.h1 hk.h2 (hy _ _ hI)
/-- A slice's length is a number. -/
theorem len_le {x : Value} {es : List (List D)} (h : DRep w F x (.sl es)) : es.length ≤ 9223372036854775807 := by
  cases h with
  | sl A n cc k _ us hn hc hm hk hA hA0 hcell hrep => unfold maxLen at hm; omega
theorem pwp_len (i : Nat) {es : List (List D)} {l : List (Nat × PV)} {m : List (Nat × Box)} (ht : lk l i = .d (.sl es)) (h : es.length ≤ 9223372036854775807 → PWP P n c Qs (St l m)) : PWP P n c Qs (St l m) := by
  intro w0 F0 a w hc
  obtain ⟨_, _, ρ, F, hi, hev⟩ := id hc
  have := hev i
  rw [show (St l m).t i = lk l i from rfl, ht] at this
  exact h (len_le this.dd) w0 F0 a w hc
theorem pwp_lenA (i j : Nat) {es : List (List D)} {cs : List PV} {l : List (Nat × PV)} {m : List (Nat × Box)} (ht : lk l i = .ag cs) (hj : cs[j]? = some (.d (.sl es))) (h : es.length ≤ 9223372036854775807 → PWP P n c Qs (St l m)) : PWP P n c Qs (St l m) := by
  intro w0 F0 a w hc
  obtain ⟨_, _, ρ, F, hi, hev⟩ := id hc
  have h2 := hev i
  rw [show (St l m).t i = lk l i from rfl, ht] at h2
  generalize a.tmps.getD i undef = v at h2
  cases h2 with
  | ag xs _ hl h1 hr =>
    have hlt : j < xs.size := by rw [hl]; exact (List.getElem?_eq_some_iff.1 hj).1
    have := hr j xs[j] _ (by simp [hlt]) hj
    exact h (len_le this.dd) w0 F0 a w hc
end
end Go.Proofs.Ytcphpbhngnnpmaa

/- The seat's types: cells, bytes, zeros, fields. -/
namespace Go.Proofs.Ytcphpbhngnnpmaa
open Go.RowKit

theorem Try.tinf2 : tinf Try.prog 2 = some ⟨1, 8, false, [.int .i64 0]⟩ := by kernel_rfl
theorem Try.tinf3 : tinf Try.prog 3 = some ⟨1, 8, false, [.int .i64 0]⟩ := by kernel_rfl
theorem Try.tinf4 : tinf Try.prog 4 = some ⟨1, 1, false, [.bool false]⟩ := by kernel_rfl
theorem Try.tinf5 : tinf Try.prog 5 = some ⟨1, 1, false, [.int .u8 0]⟩ := by kernel_rfl
theorem Try.tinf9 : tinf Try.prog 9 = some ⟨1, 16, false, [.string ⟨#[]⟩]⟩ := by kernel_rfl
theorem Try.tinf12 : tinf Try.prog 12 = some ⟨1, 8, false, [.int .u64 0]⟩ := by kernel_rfl
theorem Try.tinf21 : tinf Try.prog 21 = some ⟨1, 4, false, [.int .i32 0]⟩ := by kernel_rfl
theorem Try.tinf22 : tinf Try.prog 22 = some ⟨2, 16, true, [.int .i64 0, .int .i64 0]⟩ := by kernel_rfl
theorem Try.flds22 : fldsO Try.prog 22 = some [(0, 1, false), (1, 1, false)] := by kernel_rfl
theorem Try.tinf23 : tinf Try.prog 23 = some ⟨2, 16, true, [.int .i64 0, .int .i64 0]⟩ := by kernel_rfl
theorem Try.flds23 : fldsO Try.prog 23 = some [(0, 1, false), (1, 1, false)] := by kernel_rfl
theorem Try.tinf24 : tinf Try.prog 24 = some ⟨8, 64, true, [.int .i64 0, .int .i64 0, .int .i64 0, .int .i64 0, .int .i64 0, .int .i64 0, .int .i64 0, .int .i64 0]⟩ := by kernel_rfl
theorem Try.flds24 : fldsO Try.prog 24 = some [(0, 1, false), (1, 1, false), (2, 2, true), (4, 1, false), (5, 1, false), (6, 1, false), (7, 1, false)] := by kernel_rfl
theorem Try.tinf25 : tinf Try.prog 25 = some ⟨8, 64, true, [.int .i64 0, .int .i64 0, .int .i64 0, .int .i64 0, .int .i64 0, .int .i64 0, .int .i64 0, .int .i64 0]⟩ := by kernel_rfl
theorem Try.flds25 : fldsO Try.prog 25 = some [(0, 1, false), (1, 1, false), (2, 2, true), (4, 1, false), (5, 1, false), (6, 1, false), (7, 1, false)] := by kernel_rfl
theorem Try.tinf26 : tinf Try.prog 26 = some ⟨8, 64, true, [.int .i64 0, .int .i64 0, .int .i64 0, .int .i64 0, .int .i64 0, .int .i64 0, .int .i64 0, .bool false]⟩ := by kernel_rfl
theorem Try.flds26 : fldsO Try.prog 26 = some [(0, 1, false), (1, 1, false), (2, 1, false), (3, 2, true), (5, 1, false), (6, 1, false), (7, 1, false)] := by kernel_rfl
theorem Try.tinf27 : tinf Try.prog 27 = some ⟨8, 64, true, [.int .i64 0, .int .i64 0, .int .i64 0, .int .i64 0, .int .i64 0, .int .i64 0, .int .i64 0, .bool false]⟩ := by kernel_rfl
theorem Try.flds27 : fldsO Try.prog 27 = some [(0, 1, false), (1, 1, false), (2, 1, false), (3, 2, true), (5, 1, false), (6, 1, false), (7, 1, false)] := by kernel_rfl
theorem Try.tinf44 : tinf Try.prog 44 = some ⟨1, 4, false, [.int .u32 0]⟩ := by kernel_rfl
theorem Try.tinf51 : tinf Try.prog 51 = some ⟨11, 48, true, [.int .u64 0, .int .u64 0, .int .u32 0, .int .u8 0, .int .u8 0, .int .u8 0, .int .u8 0, .nilFunc, .pointer none, .int .i32 0, .int .i32 0]⟩ := by kernel_rfl
theorem Try.flds51 : fldsO Try.prog 51 = some [(0, 1, false), (1, 1, false), (2, 1, false), (3, 1, false), (4, 1, false), (5, 1, false), (6, 1, false), (7, 1, false), (8, 1, false), (9, 1, false), (10, 1, false)] := by kernel_rfl
theorem Try.eqty22 : eqTy Try.prog 22 = some [0, 0] := by kernel_rfl
theorem Try.eqty23 : eqTy Try.prog 23 = some [0, 0] := by kernel_rfl
theorem Try.eqty24 : eqTy Try.prog 24 = some [0, 0, 0, 0, 0, 0, 0, 0] := by kernel_rfl
theorem Try.eqty25 : eqTy Try.prog 25 = some [0, 0, 0, 0, 0, 0, 0, 0] := by kernel_rfl
theorem Try.eqty26 : eqTy Try.prog 26 = some [0, 0, 0, 0, 0, 0, 0, 1] := by kernel_rfl
theorem Try.eqty27 : eqTy Try.prog 27 = some [0, 0, 0, 0, 0, 0, 0, 1] := by kernel_rfl
theorem Try.mixed : Try.prog.follows .mixedOrders = true := by kernel_rfl
end Go.Proofs.Ytcphpbhngnnpmaa

/- The states of the cluster, as plain data, and their cells. -/
namespace Go.Proofs.Ytcphpbhngnnpmaa
open Go.RowKit

abbrev dI (n : Int) : D := .v (.int .i64 n)
abbrev dB (t : Bool) : D := .v (.bool t)
abbrev dS (s : ByteArray) : D := .v (.string s)
abbrev pI (n : Int) : PV := .d (dI n)
abbrev pB (t : Bool) : PV := .d (dB t)
abbrev pS (s : ByteArray) : PV := .d (dS s)
structure Nd where
  (id label rack mem cores seen beat : Int) (up : Bool)
structure Ak where
  (prio label mem cores count node rack missed : Int)
structure Ap where
  (id state : Int) (queue : ByteArray) (user prio mem cores : Int) (asks : List Ak) (seen beat : Int) (grants kills told lost : List Int)
structure Ct where
  (id app node mem cores prio label : Int) (master : Bool) (notice : Int)
structure Sl where
  (node app prio : Int)
structure Pl where
  (id label fro til mem cores : Int)
structure Cp where
  (least most : Int)
structure Qu where
  (path : ByteArray) (caps : List Cp) (user : Int)
structure Sta where
  (labels : List ByteArray) (queues : List Qu) (nodes : List Nd) (apps : List Ap) (conts : List Ct) (slots : List Sl) (plans : List Pl) (now epoch seq : Int)
def Nd.d (x : Nd) : List D := [dI x.id, dI x.label, dI x.rack, dI x.mem, dI x.cores, dI x.seen, dI x.beat, dB x.up]
def Ak.d (x : Ak) : List D := [dI x.prio, dI x.label, dI x.mem, dI x.cores, dI x.count, dI x.node, dI x.rack, dI x.missed]
def intsD (l : List Int) : D := .sl (l.map fun x => [dI x])
def asksD (l : List Ak) : D := .sl (l.map Ak.d)
def Ap.d (x : Ap) : List D := [dI x.id, dI x.state, dS x.queue, dI x.user, dI x.prio, dI x.mem, dI x.cores, asksD x.asks, dI x.seen, dI x.beat, intsD x.grants, intsD x.kills, intsD x.told, intsD x.lost]
def Ct.d (x : Ct) : List D := [dI x.id, dI x.app, dI x.node, dI x.mem, dI x.cores, dI x.prio, dI x.label, dB x.master, dI x.notice]
def Sl.d (x : Sl) : List D := [dI x.node, dI x.app, dI x.prio]
def Pl.d (x : Pl) : List D := [dI x.id, dI x.label, dI x.fro, dI x.til, dI x.mem, dI x.cores]
def Cp.d (x : Cp) : List D := [dI x.least, dI x.most]
def Qu.d (x : Qu) : List D := [dS x.path, .sl (x.caps.map Cp.d), dI x.user]
def strsD (l : List ByteArray) : D := .sl (l.map fun x => [dS x])
def Sta.d (x : Sta) : List D := [strsD x.labels, .sl (x.queues.map Qu.d), .sl (x.nodes.map Nd.d), .sl (x.apps.map Ap.d), .sl (x.conts.map Ct.d), .sl (x.slots.map Sl.d), .sl (x.plans.map Pl.d), dI x.now, dI x.epoch, dI x.seq]
def Nd.c (x : Nd) : List PV := [pI x.id, pI x.label, pI x.rack, pI x.mem, pI x.cores, pI x.seen, pI x.beat, pB x.up]
def Ak.c (x : Ak) : List PV := [pI x.prio, pI x.label, pI x.mem, pI x.cores, pI x.count, pI x.node, pI x.rack, pI x.missed]
def Ap.c (x : Ap) : List PV := [pI x.id, pI x.state, pS x.queue, pI x.user, pI x.prio, pI x.mem, pI x.cores, .d (asksD x.asks), pI x.seen, pI x.beat, .d (intsD x.grants), .d (intsD x.kills), .d (intsD x.told), .d (intsD x.lost)]
def Ct.c (x : Ct) : List PV := [pI x.id, pI x.app, pI x.node, pI x.mem, pI x.cores, pI x.prio, pI x.label, pB x.master, pI x.notice]
def Sl.c (x : Sl) : List PV := [pI x.node, pI x.app, pI x.prio]
def Pl.c (x : Pl) : List PV := [pI x.id, pI x.label, pI x.fro, pI x.til, pI x.mem, pI x.cores]
def Cp.c (x : Cp) : List PV := [pI x.least, pI x.most]
def Qu.c (x : Qu) : List PV := [pS x.path, .d (.sl (x.caps.map Cp.d)), pI x.user]
def Sta.c (x : Sta) : List PV := [.d (strsD x.labels), .d (.sl (x.queues.map Qu.d)), .d (.sl (x.nodes.map Nd.d)), .d (.sl (x.apps.map Ap.d)), .d (.sl (x.conts.map Ct.d)), .d (.sl (x.slots.map Sl.d)), .d (.sl (x.plans.map Pl.d)), pI x.now, pI x.epoch, pI x.seq]
theorem lenNd (l : List Nd) : lenAll 8 (l.map Nd.d) = True := lenAll_map (k := 8) Nd.d (fun _ => rfl) l
theorem lenAk (l : List Ak) : lenAll 8 (l.map Ak.d) = True := lenAll_map (k := 8) Ak.d (fun _ => rfl) l
theorem lenAp (l : List Ap) : lenAll 14 (l.map Ap.d) = True := lenAll_map (k := 14) Ap.d (fun _ => rfl) l
theorem lenCt (l : List Ct) : lenAll 9 (l.map Ct.d) = True := lenAll_map (k := 9) Ct.d (fun _ => rfl) l
theorem lenSl (l : List Sl) : lenAll 3 (l.map Sl.d) = True := lenAll_map (k := 3) Sl.d (fun _ => rfl) l
theorem lenPl (l : List Pl) : lenAll 6 (l.map Pl.d) = True := lenAll_map (k := 6) Pl.d (fun _ => rfl) l
theorem lenCp (l : List Cp) : lenAll 2 (l.map Cp.d) = True := lenAll_map (k := 2) Cp.d (fun _ => rfl) l
theorem lenQu (l : List Qu) : lenAll 3 (l.map Qu.d) = True := lenAll_map (k := 3) Qu.d (fun _ => rfl) l
theorem lenIn (l : List Int) : lenAll 1 (l.map fun x => [dI x]) = True := lenAll_map (k := 1) (fun x => [dI x]) (fun _ => rfl) l
theorem lenSt (l : List ByteArray) : lenAll 1 (l.map fun x => [dS x]) = True := lenAll_map (k := 1) (fun x => [dS x]) (fun _ => rfl) l
theorem lenInv (l : List Int) : lenAll 1 (l.map fun x => [D.v (.int .i64 x)]) = True := lenAll_map (k := 1) (fun x => [D.v (.int .i64 x)]) (fun _ => rfl) l
theorem lenStv (l : List ByteArray) : lenAll 1 (l.map fun x => [D.v (.string x)]) = True := lenAll_map (k := 1) (fun x => [D.v (.string x)]) (fun _ => rfl) l
/-- A struct, as a value. -/
def agD (l : List D) : PV := .ag (l.map .d)
def Ct.zero : Ct := ⟨0, 0, 0, 0, 0, 0, 0, false, 0⟩
theorem wrapI {x : Int} (h1 : -9223372036854775808 ≤ x) (h2 : x ≤ 9223372036854775807) : IntKind.i64.wrap x = x := by
  exact IntWalk.i64_in x ⟨h1, h2⟩
theorem castS (k : Nat) : ((k : Int) + 1) = ((k + 1 : Nat) : Int) := rfl
end Go.Proofs.Ytcphpbhngnnpmaa

/- Plain facts on lists, for loops. -/
namespace Go.Proofs.Ytcphpbhngnnpmaa
open Go.RowKit

theorem find_take {α : Type} {p : α → Bool} {l : List α} {k : Nat} {c : α} (h : ∀ x ∈ l.take k, p x = false) (hc : l[k]? = some c) (hp : p c = true) : l.find? p = some c ∧ l.any p = true := by
  have e : l = l.take k ++ c :: l.drop (k + 1) := by
    have hk := (List.getElem?_eq_some_iff.1 hc).1
    have h2 := (List.getElem?_eq_some_iff.1 hc).2
    rw [← h2, List.getElem_cons_drop, List.take_append_drop]
  constructor
  · rw [e, List.find?_append, List.find?_eq_none.2 (fun x hx => by simp [h x hx])]
    simp [hp]
  · rw [List.any_eq_true]
    exact ⟨c, List.mem_of_getElem? hc, hp⟩
theorem find_end {α : Type} {p : α → Bool} {l : List α} (h : ∀ x ∈ l, p x = false) : l.find? p = none ∧ l.any p = false :=
  ⟨List.find?_eq_none.2 (fun x hx => by simp [h x hx]), by rw [List.any_eq_false]; intro x hx; simp [h x hx]⟩
theorem take_snoc {α : Type} {p : α → Prop} {l : List α} {k : Nat} {c : α} (h : ∀ x ∈ l.take k, p x) (hc : l[k]? = some c) (hp : p c) : ∀ x ∈ l.take (k + 1), p x := by
  intro x hx
  rw [List.take_add_one, hc] at hx
  simp at hx
  rcases hx with hx | rfl
  · exact h x hx
  · exact hp
theorem take_next {α : Type} {l : List α} {k : Nat} {c : α} (hc : l[k]? = some c) : l.take (k + 1) = l.take k ++ [c] := by
  rw [List.take_add_one, hc]; rfl
/-- How far a walk goes whose test holds of the first ones. -/
def upto {α : Type} (p : α → Bool) (l : List α) : Nat := (l.takeWhile p).length
theorem upto_at {α : Type} {p : α → Bool} {l : List α} {k : Nat} {c : α} (h : ∀ x ∈ l.take k, p x = true) (hc : l[k]? = some c) (hp : p c = false) : upto p l = k := by
  have hk := (List.getElem?_eq_some_iff.1 hc).1
  have e : l = l.take k ++ c :: l.drop (k + 1) := by
    have h2 := (List.getElem?_eq_some_iff.1 hc).2
    rw [← h2, List.getElem_cons_drop, List.take_append_drop]
  unfold upto
  rw [e, List.takeWhile_append_of_pos h]
  simp [hp]
  omega
theorem upto_end {α : Type} {p : α → Bool} {l : List α} (h : ∀ x ∈ l, p x = true) : upto p l = l.length := by
  unfold upto
  have := List.takeWhile_append_of_pos (l₂ := []) h
  rw [List.append_nil] at this
  rw [this]
  simp
theorem at_k {α : Type} {l : List α} {k : Nat} (h : k < l.length) : ∃ c, l[k]? = some c := ⟨_, List.getElem?_eq_getElem h⟩
theorem lt_t {k n : Nat} (h : k < n) : decide ((k : Int) < (n : Int)) = true := by simpa using h
theorem lt_f {k n : Nat} (h : ¬ k < n) : decide ((k : Int) < (n : Int)) = false := by simpa using h
theorem filter_next {α : Type} (p : α → Bool) {l : List α} {k : Nat} {c : α} (hc : l[k]? = some c) : (l.take (k + 1)).filter p = (l.take k).filter p ++ (if p c then [c] else []) := by
  rw [take_next hc, List.filter_append]
  congr 1
  cases h : p c <;> simp [h]
theorem snocK (k : Nat) (h : k + 1 ≤ 9223372036854775807) : IntKind.i64.wrap ((k : Int) + 1) = ((k + 1 : Nat) : Int) := wrapI (by omega) (by omega)
end Go.Proofs.Ytcphpbhngnnpmaa

/- Generic walks: plain partial operations; states in normal form; tests that part; loops as plain recursion. -/
namespace Go.Proofs.Ytcphpbhngnnpmaa
open Go.RowKit

/-! ### Plain partial operations -/
section
variable {α β σ τ : Type}
def idxO (l : List α) (i : Int) : Option α := if 0 ≤ i then l[i.toNat]? else none
def appO (l m : List α) : Option (List α) := if l.length + m.length ≤ 1000000 then some (l ++ m) else none
def hiO (l : List α) (k : Int) : Option (List α) := if 0 ≤ k ∧ k.toNat ≤ l.length then some (l.take k.toNat) else none
def loO (l : List α) (k : Int) : Option (List α) := if 0 ≤ k ∧ k.toNat ≤ l.length then some (l.drop k.toNat) else none
def setO (l : List α) (i : Int) (y : α) : Option (List α) := if 0 ≤ i ∧ i.toNat < l.length then some (l.set i.toNat y) else none
def sIdxO (s : ByteArray) (i : Int) : Option Int := if 0 ≤ i then (s.data.toList[i.toNat]?).map (fun c => (c.toNat : Int)) else none
def sHiO (s : ByteArray) (k : Int) : Option ByteArray := if 0 ≤ k ∧ k.toNat ≤ s.size then some (s.extract 0 k.toNat) else none
def sLoO (s : ByteArray) (k : Int) : Option ByteArray := if 0 ≤ k ∧ k.toNat ≤ s.size then some (s.extract k.toNat s.size) else none
def sLhO (s : ByteArray) (a b : Int) : Option ByteArray := if 0 ≤ a ∧ 0 ≤ b ∧ a.toNat ≤ b.toNat ∧ b.toNat ≤ s.size then some (s.extract a.toNat b.toNat) else none
def sCatO (s t : ByteArray) : Option ByteArray := if s.size + t.size ≤ 9223372036854775807 then some (s ++ t) else none
def sOfO (l : List Int) : Option ByteArray := if l = [] then none else some (l.foldl (fun r n => r.push (UInt8.ofNat n.toNat)) ByteArray.empty)
def remO (x y : Int) : Option Int := if y = 0 then none else some (x.tmod y)
def quoO (x y : Int) : Option Int := if y = 0 then none else some (IntKind.i64.wrap (x.tdiv y))
/-- A loop: at most so many rounds. -/
def loopO (f : σ → Option (σ ⊕ τ)) : Nat → σ → Option τ
  | 0, _ => none
  | n + 1, s => match f s with
    | none => none
    | some (.inl s') => loopO f n s'
    | some (.inr r) => some r
/-- How many rounds a loop may have. -/
def rounds : Nat := 1000000000

theorem bindO {o : Option α} {k : α → Option β} {r : β} (h : o.bind k = some r) : ∃ x, o = some x ∧ k x = some r := by
  cases o with
  | none => cases h
  | some x => exact ⟨x, rfl, h⟩
theorem peel_idx {l : List α} {i : Int} {k : α → Option β} {r : β} (h : (idxO l i).bind k = some r) : ∃ x, (0 ≤ i ∧ l[i.toNat]? = some x ∧ i.toNat < l.length) ∧ k x = some r := by
  obtain ⟨x, h1, h2⟩ := bindO h
  unfold idxO at h1
  split at h1
  · exact ⟨x, ⟨‹_›, h1, (List.getElem?_eq_some_iff.1 h1).1⟩, h2⟩
  · cases h1
theorem peel_app {l m : List α} {k : List α → Option β} {r : β} (h : (appO l m).bind k = some r) : l.length + m.length ≤ 1000000 ∧ k (l ++ m) = some r := by
  obtain ⟨x, h1, h2⟩ := bindO h
  unfold appO at h1
  split at h1
  · injection h1 with h1; subst h1; exact ⟨‹_›, h2⟩
  · cases h1
theorem peel_hi {l : List α} {i : Int} {k : List α → Option β} {r : β} (h : (hiO l i).bind k = some r) : (0 ≤ i ∧ i.toNat ≤ l.length) ∧ k (l.take i.toNat) = some r := by
  obtain ⟨x, h1, h2⟩ := bindO h
  unfold hiO at h1
  split at h1
  · injection h1 with h1; subst h1; exact ⟨‹_›, h2⟩
  · cases h1
theorem peel_lo {l : List α} {i : Int} {k : List α → Option β} {r : β} (h : (loO l i).bind k = some r) : (0 ≤ i ∧ i.toNat ≤ l.length) ∧ k (l.drop i.toNat) = some r := by
  obtain ⟨x, h1, h2⟩ := bindO h
  unfold loO at h1
  split at h1
  · injection h1 with h1; subst h1; exact ⟨‹_›, h2⟩
  · cases h1
theorem peel_set {l : List α} {i : Int} {y : α} {k : List α → Option β} {r : β} (h : (setO l i y).bind k = some r) : (0 ≤ i ∧ i.toNat < l.length ∧ ∃ x, l[i.toNat]? = some x) ∧ k (l.set i.toNat y) = some r := by
  obtain ⟨x, h1, h2⟩ := bindO h
  unfold setO at h1
  split at h1
  · rename_i hc
    injection h1 with h1; subst h1; exact ⟨⟨hc.1, hc.2, _, List.getElem?_eq_getElem hc.2⟩, h2⟩
  · cases h1
theorem peel_sidx {s : ByteArray} {i : Int} {k : Int → Option β} {r : β} (h : (sIdxO s i).bind k = some r) : ∃ c : UInt8, (0 ≤ i ∧ s.data.toList[i.toNat]? = some c) ∧ k (c.toNat : Int) = some r := by
  obtain ⟨x, h1, h2⟩ := bindO h
  unfold sIdxO at h1
  split at h1
  · rw [Option.map_eq_some_iff] at h1
    obtain ⟨c, h3, rfl⟩ := h1
    exact ⟨c, ⟨‹_›, h3⟩, h2⟩
  · cases h1
theorem peel_shi {s : ByteArray} {i : Int} {k : ByteArray → Option β} {r : β} (h : (sHiO s i).bind k = some r) : (0 ≤ i ∧ i.toNat ≤ s.size) ∧ k (s.extract 0 i.toNat) = some r := by
  obtain ⟨x, h1, h2⟩ := bindO h
  unfold sHiO at h1
  split at h1
  · injection h1 with h1; subst h1; exact ⟨‹_›, h2⟩
  · cases h1
theorem peel_slo {s : ByteArray} {i : Int} {k : ByteArray → Option β} {r : β} (h : (sLoO s i).bind k = some r) : (0 ≤ i ∧ i.toNat ≤ s.size) ∧ k (s.extract i.toNat s.size) = some r := by
  obtain ⟨x, h1, h2⟩ := bindO h
  unfold sLoO at h1
  split at h1
  · injection h1 with h1; subst h1; exact ⟨‹_›, h2⟩
  · cases h1
theorem peel_slh {s : ByteArray} {a b : Int} {k : ByteArray → Option β} {r : β} (h : (sLhO s a b).bind k = some r) : (0 ≤ a ∧ 0 ≤ b ∧ a.toNat ≤ b.toNat ∧ b.toNat ≤ s.size) ∧ k (s.extract a.toNat b.toNat) = some r := by
  obtain ⟨x, h1, h2⟩ := bindO h
  unfold sLhO at h1
  split at h1
  · injection h1 with h1; subst h1; exact ⟨‹_›, h2⟩
  · cases h1
theorem peel_scat {s t : ByteArray} {k : ByteArray → Option β} {r : β} (h : (sCatO s t).bind k = some r) : s.size + t.size ≤ 9223372036854775807 ∧ k (s ++ t) = some r := by
  obtain ⟨x, h1, h2⟩ := bindO h
  unfold sCatO at h1
  split at h1
  · injection h1 with h1; subst h1; exact ⟨‹_›, h2⟩
  · cases h1
theorem peel_sof {l : List Int} {k : ByteArray → Option β} {r : β} (h : (sOfO l).bind k = some r) : ¬ l = [] ∧ k (l.foldl (fun r n => r.push (UInt8.ofNat n.toNat)) ByteArray.empty) = some r := by
  obtain ⟨x, h1, h2⟩ := bindO h
  unfold sOfO at h1
  split at h1
  · cases h1
  · injection h1 with h1; subst h1; exact ⟨‹_›, h2⟩
theorem peel_rem {x y : Int} {k : Int → Option β} {r : β} (h : (remO x y).bind k = some r) : ¬ y = 0 ∧ k (x.tmod y) = some r := by
  obtain ⟨z, h1, h2⟩ := bindO h
  unfold remO at h1
  split at h1
  · cases h1
  · injection h1 with h1; subst h1; exact ⟨‹_›, h2⟩
theorem peel_quo {x y : Int} {k : Int → Option β} {r : β} (h : (quoO x y).bind k = some r) : ¬ y = 0 ∧ k (IntKind.i64.wrap (x.tdiv y)) = some r := by
  obtain ⟨z, h1, h2⟩ := bindO h
  unfold quoO at h1
  split at h1
  · cases h1
  · injection h1 with h1; subst h1; exact ⟨‹_›, h2⟩
theorem take_all_drop (l : List α) (k : Nat) : (l.drop k).take (l.length - k) = l.drop k := List.take_of_length_le (by simp)
theorem take_all_drop_map (f : α → β) (l : List α) (k : Nat) : ((l.map f).drop k).take (l.length - k) = (l.map f).drop k := List.take_of_length_le (by simp)
end

/-! ### States in normal form -/
mutual
/-- Rows that are not kept are data from here on; nil is an empty row; addresses of what is not kept are nothing. -/
def nm (kp : Nat → Bool) (b : Nat → Option Box) : PV → PV
  | .row t n => if kp t = true then .row t n else match b t with
    | some (.rw _ _ es) => if es.length = n then .d (.sl es) else .junk
    | _ => .junk
  | .ptr t o => if kp t = true then .ptr t o else .junk
  | .re t n i o => if kp t = true then .re t n i o else .junk
  | .ag cs => .ag (nms kp b cs)
  | .tup cs => .tup (nms kp b cs)
  | .d x => .d (nrm x)
  | .junk => .junk
  | .fe cs => .fe cs
def nms (kp : Nat → Bool) (b : Nat → Option Box) : List PV → List PV
  | [] => []
  | c :: cs => nm kp b c :: nms kp b cs
end
def nmB (kp : Nat → Bool) (b : Nat → Option Box) : Box → Box
  | .st ty cs => .st ty (nms kp b cs)
  | .rw e k es => .rw e k es
def nmM0 (kp : Nat → Bool) (b : Nat → Option Box) : List (Nat × Box) → List (Nat × Box)
  | [] => []
  | (i, B) :: l => if kp i = true then (i, nmB kp b B) :: nmM0 kp b l else nmM0 kp b l
def nmM (kp : Nat → Bool) (m : List (Nat × Box)) : List (Nat × Box) := nmM0 kp (lkb m) m
def nmS (kp : Nat → Bool) (ks : List Nat) (l : List (Nat × PV)) (m : List (Nat × Box)) : List (Nat × PV) := ks.map fun i => (i, nm kp (lkb m) (lk l i))

section
variable {P : Program} {ρ ρ' : Nat → Value} {b b' : Nat → Option Box} {w w' w0 : World} {F F' F0 : Nat → Prop} {n : Nat} {Qs : Exit → PS → Prop} {c : Code}
theorem nms_len (kp : Nat → Bool) (b : Nat → Option Box) : ∀ cs : List PV, (nms kp b cs).length = cs.length
  | [] => rfl
  | c :: cs => by simp [nms, nms_len kp b cs]
theorem nms_get (kp : Nat → Bool) (b : Nat → Option Box) : ∀ (cs : List PV) (j : Nat) (c : PV), (nms kp b cs)[j]? = some c → ∃ d, cs[j]? = some d ∧ c = nm kp b d
  | [], j, c, h => by simp [nms] at h
  | d :: cs, j, c, h => by
    simp only [nms] at h
    cases j with
    | zero => simp at h; exact ⟨d, rfl, h.symm⟩
    | succ j => simp at h; simpa using nms_get kp b cs j c h
/-- What is frozen then. -/
def nmF (kp : Nat → Bool) (ρ : Nat → Value) (b : Nat → Option Box) (F : Nat → Prop) : Nat → Prop := fun g => F g ∨ ∃ t B, kp t = false ∧ b t = some B ∧ blk (ρ t) = some g
theorem row_dataF {t n : Nat} {e k : Nat} {es : List (List D)} {x : Value} {G : Nat → Prop} (hi : Inv w0 F0 ρ b w F) (hb : b t = some (.rw e k es)) (h : PRep ρ b w F x (.row t n)) (hn : es.length = n) (hG : ∀ g, F g → G g) (hGt : ∀ g, blk (ρ t) = some g → G g) : DRep w G x (.sl es) := by
  have hr := asSl_reads hi h (show asSl b (.row t n) = some es by simp [asSl, hb, hn])
  obtain ⟨A, c, k', rfl, hc, hm, hk, hA, hcell⟩ := hr
  cases A with
  | none =>
    obtain ⟨rfl, rfl⟩ := hA rfl
    exact .sl none 0 0 0 [] (fun _ => undef) rfl (Nat.le_refl _) (by simp [maxLen]) (by simp) (by omega) (fun _ => rfl) (by simp) (by simp)
  | some a =>
    have hcell := hcell a rfl
    refine .sl (some a) es.length c k' es (fun j => (w.cell? (a.add j)).getD undef) rfl hc hm hk (fun h0 => ⟨a, rfl, hGt _ ?_⟩) (fun h => by cases h) (fun a' j d ha' hj => ?_) (fun j d hj => ?_)
    · cases h with
      | row _ _ _ _ e' k2 es2 hb2 _ _ _ hρ =>
        rw [hb] at hb2
        injection hb2 with hb2
        injection hb2 with e1 e2 e3
        subst e3
        rw [hρ rfl]
        rfl
    · injection ha' with ha'
      subst ha'
      obtain ⟨u, h1, _⟩ := hcell j d hj
      rw [h1]; rfl
    · obtain ⟨u, h1, h2⟩ := hcell j d hj
      rw [h1]
      exact h2.mono hG (fun _ _ => rfl)
theorem PRep.nm {kp : Nat → Bool} {x : Value} {p : PV} (hi : Inv w0 F0 ρ b w F) (hb' : ∀ i, b' i = if kp i = true then (b i).map (nmB kp b) else none) (h : PRep ρ b w F x p) : PRep ρ b' w (nmF kp ρ b F) x (Go.Proofs.Ytcphpbhngnnpmaa.nm kp b p) := by
  have hF : ∀ g, F g → nmF kp ρ b F g := fun g h => .inl h
  induction h with
  | junk x => exact .junk x
  | d x d h => exact .d x _ (h.nrm.mono hF (fun _ _ => rfl))
  | ag xs cs hl h1 hr ih =>
    refine .ag xs _ (by rw [nms_len]; exact hl) h1 (fun j x c h2 h3 => ?_)
    obtain ⟨d, h4, rfl⟩ := nms_get kp b cs j c h3
    exact ih j x d h2 h4
  | tup xs cs hl hr ih =>
    refine .tup xs _ (by rw [nms_len]; exact hl) (fun j x c h2 h3 => ?_)
    obtain ⟨d, h4, rfl⟩ := nms_get kp b cs j c h3
    exact ih j x d h2 h4
  | ptr t off g ty cs hb2 hρ =>
    simp only [Go.Proofs.Ytcphpbhngnnpmaa.nm]
    split
    · rename_i hk
      exact .ptr t off g ty _ (by rw [hb', if_pos hk, hb2]; rfl) hρ
    · exact .junk _
  | row t m A cc e' k' es' hb2 hn hc hA hρ =>
    simp only [Go.Proofs.Ytcphpbhngnnpmaa.nm]
    split
    · rename_i hk
      exact .row t m A cc e' k' es' (by rw [hb', if_pos hk, hb2]; rfl) hn hc hA hρ
    · rename_i hk
      simp only [hb2]
      split
      · rename_i hm
        exact .d _ _ (row_dataF hi hb2 (.row t m A cc e' k' es' hb2 hn hc hA hρ) hm hF (fun g hg => .inr ⟨t, _, by simpa using hk, hb2, hg⟩))
      · exact .junk _
  | re t m i o a e' k' es' hb2 hn hi' hρ =>
    simp only [Go.Proofs.Ytcphpbhngnnpmaa.nm]
    split
    · rename_i hk
      exact .re t m i o a e' k' es' (by rw [hb', if_pos hk, hb2]; rfl) hn hi' hρ
    · exact .junk _
  | fe a cs us hF' hcell hrep => exact .fe a cs us (.inl hF') hcell (fun j d h => (hrep j d h).mono hF (fun _ _ => rfl))
theorem lkb_nm0 (kp : Nat → Bool) (b : Nat → Option Box) : ∀ (m : List (Nat × Box)) (i : Nat), lkb (nmM0 kp b m) i = if kp i = true then (lkb m i).map (nmB kp b) else none
  | [], i => by simp [nmM0, lkb]
  | (j, B) :: m, i => by
    simp only [nmM0]
    split
    · rename_i hj
      simp only [lkb, lkb_nm0 kp b m i]
      by_cases hij : i = j
      · subst hij; simp [hj]
      · rw [if_neg hij, if_neg hij]
    · rename_i hj
      rw [lkb_nm0 kp b m i]
      simp only [lkb]
      by_cases hij : i = j
      · subst hij; simp [hj]
      · rw [if_neg hij]
theorem lk_nmS (kp : Nat → Bool) (m : List (Nat × Box)) : ∀ (ks : List Nat) (l : List (Nat × PV)) (i : Nat), (i ∈ ks → lk (nmS kp ks l m) i = nm kp (lkb m) (lk l i)) ∧ (i ∉ ks → lk (nmS kp ks l m) i = .junk)
  | [], l, i => ⟨fun h => absurd h List.not_mem_nil, fun _ => rfl⟩
  | k :: ks, l, i => by
    obtain ⟨h1, h2⟩ := lk_nmS kp m ks l i
    unfold nmS at h1 h2 ⊢
    simp only [List.map_cons, lk]
    by_cases h : i = k
    · subst h
      simp
    · rw [if_neg h]
      exact ⟨fun hm => h1 ((List.mem_cons.1 hm).resolve_left h), fun hm => h2 fun e => hm (List.mem_cons_of_mem _ e)⟩
/-- **A state in normal form.** -/
theorem conc_nm (kp : Nat → Bool) (ks : List Nat) {l : List (Nat × PV)} {m : List (Nat × Box)} {a : Act} (h : Conc n w0 F0 (St l m) a w) : Conc n w0 F0 (St (nmS kp ks l m) (nmM kp m)) a w := by
  obtain ⟨h1, h2, ρ, F, hi, hev⟩ := h
  have hb' : ∀ i, (St (nmS kp ks l m) (nmM kp m)).b i = if kp i = true then ((St l m).b i).map (nmB kp (lkb m)) else none := fun i => lkb_nm0 kp (lkb m) m i
  have get : ∀ t B, (St (nmS kp ks l m) (nmM kp m)).b t = some B → kp t = true ∧ ∃ B0, (St l m).b t = some B0 ∧ B = nmB kp (lkb m) B0 := by
    intro t B h
    rw [hb'] at h
    split at h
    · rename_i hk
      rw [Option.map_eq_some_iff] at h
      obtain ⟨B0, h3, rfl⟩ := h
      exact ⟨hk, B0, h3, rfl⟩
    · cases h
  have out : ∀ t B0, kp t = true → (St l m).b t = some B0 → ∀ g, blk (ρ t) = some g → ¬ nmF kp ρ (St l m).b F g := by
    rintro t B0 hk hB0 g hg (h | ⟨t', B', hk', hB', hg'⟩)
    · exact ((hi.box t B0 hB0).lt hg).2.2 h
    · have hne : t ≠ t' := fun e => by rw [e, hk'] at hk; cases hk
      exact hi.dist t t' B0 B' g hB0 hB' hne hg hg'
  refine ⟨h1, h2, ρ, nmF kp ρ (St l m).b F, ⟨hi.ext, fun g hg => .inl (hi.f0 g hg), ?_, ?_, fun t' B h => ?_, fun t1 t2 B1 B2 g k1 k2 hne => ?_⟩, fun i => ?_⟩
  · rintro g (hg | ⟨t, B, _, hB, hg⟩)
    · exact hi.flt g hg
    · exact ((hi.box t B hB).lt hg).1
  · rintro g (hg | ⟨t, B, _, hB, hg⟩)
    · exact hi.fnew g hg
    · exact .inr ((hi.box t B hB).lt hg).2.1
  · obtain ⟨hk, B0, hB0, rfl⟩ := get t' B h
    have hnF := out t' B0 hk hB0
    cases hi.box t' B0 hB0 with
    | st ty cs g xs hρ hg hF hh hl h1 hr =>
      refine .st ty _ g xs hρ hg (hnF g (by rw [hρ]; rfl)) hh (by rw [nms_len]; exact hl) h1 (fun j x c k1 k2 => ?_)
      obtain ⟨d, h4, rfl⟩ := nms_get kp (lkb m) cs j c k2
      exact (hr j x d k1 h4).nm hi hb'
    | rw e' k' es' xs hk0 ho hF hk hl hr => exact .rw e' k' es' xs hk0 ho hnF hk hl (fun j x d k1 k2 => (hr j x d k1 k2).mono (fun g h => .inl h) (fun _ _ => rfl))
  · obtain ⟨_, B1', k1, _⟩ := get t1 B1 k1
    obtain ⟨_, B2', k2, _⟩ := get t2 B2 k2
    exact hi.dist t1 t2 B1' B2' g k1 k2 hne
  · by_cases hm : i ∈ ks
    · have := (lk_nmS kp m ks l i).1 hm
      rw [show (St (nmS kp ks l m) (nmM kp m)).t i = nm kp (lkb m) ((St l m).t i) from this]
      exact (hev i).nm hi hb'
    · have := (lk_nmS kp m ks l i).2 hm
      rw [show (St (nmS kp ks l m) (nmM kp m)).t i = .junk from this]
      exact .junk _
theorem pwp_nm (kp : Nat → Bool) (ks : List Nat) {l : List (Nat × PV)} {m : List (Nat × Box)} (h : PWP P n c Qs (St (nmS kp ks l m) (nmM kp m))) : PWP P n c Qs (St l m) :=
  fun w0 F0 a w hc => h w0 F0 a w (conc_nm kp ks hc)

/-- A test. -/
theorem pwp_condS {s : PS} {cd : Operand} {x y : Code} (t : Bool) (ht : asB (ev s cd) = some t) (h1 : t = true → PWP P n x Qs s) (h2 : t = false → PWP P n y Qs s) : PWP P n (.cond cd x y) Qs s := by
  cases t with
  | true => exact pwp_condT ht (h1 rfl)
  | false => exact pwp_condF ht (h2 rfl)

/-- **A loop, as plain recursion.** -/
theorem pwp_loopO {σ τ : Type} (ks ks2 : List Nat) (kp kx : Nat → Bool) {x : Code} {f : σ → Option (σ ⊕ τ)} (eL : List (Nat × PV) → σ → List (Nat × PV)) (eM : List (Nat × Box) → σ → List (Nat × Box)) {l : List (Nat × PV)} {m : List (Nat × Box)} {N : Nat} {s0 : σ} {r : τ} (hrun : loopO f N s0 = some r)
    (h0 : nmS kp ks l m = eL (nmS kp ks l m) s0) (h0m : nmM kp m = eM (nmM kp m) s0)
    (round : ∀ s o, f s = some o → (∀ r', o = .inr r' → r' = r) → ∀ K : Exit → PS → Prop, (∀ s' l' m', o = .inl s' → nmS kp ks l' m' = eL (nmS kp ks l m) s' → nmM kp m' = eM (nmM kp m) s' → K .normal (St l' m')) → True →
      (∀ e l' m', e ≠ .normal → (∃ r', o = .inr r') → Qs e (St (nmS kx ks2 l' m') (nmM kx m')) → K e (St l' m')) → PWP P n x K (St (eL (nmS kp ks l m) s) (eM (nmM kp m) s))) : PWP P n (.loop x) Qs (St l m) := by
  intro w0 F0 a w hc
  refine wp_loop_ghost (fun N a' w' => ∃ s, loopO f N s = some r ∧ Conc n w0 F0 (St (eL (nmS kp ks l m) s) (eM (nmM kp m) s)) a' w') N ⟨s0, hrun, by rw [← h0, ← h0m]; exact conc_nm kp ks hc⟩ (fun N a' w' ⟨s, h1, h2⟩ => ?_)
  cases N with
  | zero => cases h1
  | succ N =>
    simp only [loopO] at h1
    cases ho : f s with
    | none => rw [ho] at h1; cases h1
    | some o =>
      rw [ho] at h1
      have hor : ∀ r', o = .inr r' → r' = r := fun r' e => by subst e; injection h1
      refine wp_mono (round s o ho hor (fun e s1 => ∃ l' m', s1 = St l' m' ∧ ((e = .normal ∧ ∃ s', o = .inl s' ∧ nmS kp ks l' m' = eL (nmS kp ks l m) s' ∧ nmM kp m' = eM (nmM kp m) s') ∨ (e ≠ .normal ∧ Qs e (St (nmS kx ks2 l' m') (nmM kx m')))))
        (fun s' l' m' h3 h4 h5 => ⟨l', m', rfl, .inl ⟨rfl, s', h3, h4, h5⟩⟩) trivial (fun e l' m' he _ hq => ⟨l', m', rfl, .inr ⟨he, hq⟩⟩) w0 F0 a' w' h2) fun e a2 w2 ⟨s2, h3, h4⟩ => ?_
      obtain ⟨l', m', rfl, h3⟩ := h3
      rcases h3 with ⟨rfl, s', rfl, h5, h6⟩ | ⟨hne, hq⟩
      · refine ⟨N, Nat.lt_succ_self _, s', h1, ?_⟩
        rw [← h5, ← h6]
        exact conc_nm kp ks h4
      · have := conc_nm kx ks2 h4
        cases e with
        | normal => exact absurd rfl hne
        | _ => exact ⟨_, hq, this⟩
end
end Go.Proofs.Ytcphpbhngnnpmaa

/- Structs of the program, as plain data (written by gen.py). -/
namespace Go.Proofs.Ytcphpbhngnnpmaa
open Go.RowKit

def iD (n : Int) : List D := [.v (.int .i64 n)]
def uD (n : Int) : List D := [.v (.int .u8 n)]
def bD (t : Bool) : List D := [.v (.bool t)]
def sD (s : ByteArray) : List D := [.v (.string s)]
theorem len_iD (l : List Int) : lenAll 1 (l.map iD) = True := lenAll_map (k := 1) iD (fun _ => rfl) l
theorem len_uD (l : List Int) : lenAll 1 (l.map uD) = True := lenAll_map (k := 1) uD (fun _ => rfl) l
theorem len_bD (l : List Bool) : lenAll 1 (l.map bD) = True := lenAll_map (k := 1) bD (fun _ => rfl) l
theorem len_sD (l : List ByteArray) : lenAll 1 (l.map sD) = True := lenAll_map (k := 1) sD (fun _ => rfl) l
structure GVec where
  fMem : Int
  fCores : Int
def GVec.zero : GVec := ⟨0, 0⟩
def GVec.d (x : GVec) : List D := [.v (.int .i64 x.fMem), .v (.int .i64 x.fCores)]
def GVec.c (x : GVec) : List PV := [.d (.v (.int .i64 x.fMem)), .d (.v (.int .i64 x.fCores))]
theorem len_GVec (l : List GVec) : lenAll 2 (l.map GVec.d) = True := lenAll_map (k := 2) GVec.d (fun _ => rfl) l
structure GAsk where
  fPrio : Int
  fLabel : Int
  fSize : GVec
  fCount : Int
  fNode : Int
  fRack : Int
  fMissed : Int
def GAsk.zero : GAsk := ⟨0, 0, GVec.zero, 0, 0, 0, 0⟩
def GAsk.d (x : GAsk) : List D := [.v (.int .i64 x.fPrio), .v (.int .i64 x.fLabel), .v (.int .i64 x.fSize.fMem), .v (.int .i64 x.fSize.fCores), .v (.int .i64 x.fCount), .v (.int .i64 x.fNode), .v (.int .i64 x.fRack), .v (.int .i64 x.fMissed)]
def GAsk.c (x : GAsk) : List PV := [.d (.v (.int .i64 x.fPrio)), .d (.v (.int .i64 x.fLabel)), .d (.v (.int .i64 x.fSize.fMem)), .d (.v (.int .i64 x.fSize.fCores)), .d (.v (.int .i64 x.fCount)), .d (.v (.int .i64 x.fNode)), .d (.v (.int .i64 x.fRack)), .d (.v (.int .i64 x.fMissed))]
theorem len_GAsk (l : List GAsk) : lenAll 8 (l.map GAsk.d) = True := lenAll_map (k := 8) GAsk.d (fun _ => rfl) l
structure GNode where
  fId : Int
  fLabel : Int
  fRack : Int
  fCap : GVec
  fSeen : Int
  fBeat : Int
  fUp : Bool
def GNode.zero : GNode := ⟨0, 0, 0, GVec.zero, 0, 0, false⟩
def GNode.d (x : GNode) : List D := [.v (.int .i64 x.fId), .v (.int .i64 x.fLabel), .v (.int .i64 x.fRack), .v (.int .i64 x.fCap.fMem), .v (.int .i64 x.fCap.fCores), .v (.int .i64 x.fSeen), .v (.int .i64 x.fBeat), .v (.bool x.fUp)]
def GNode.c (x : GNode) : List PV := [.d (.v (.int .i64 x.fId)), .d (.v (.int .i64 x.fLabel)), .d (.v (.int .i64 x.fRack)), .d (.v (.int .i64 x.fCap.fMem)), .d (.v (.int .i64 x.fCap.fCores)), .d (.v (.int .i64 x.fSeen)), .d (.v (.int .i64 x.fBeat)), .d (.v (.bool x.fUp))]
theorem len_GNode (l : List GNode) : lenAll 8 (l.map GNode.d) = True := lenAll_map (k := 8) GNode.d (fun _ => rfl) l
end Go.Proofs.Ytcphpbhngnnpmaa

/- Loops as plain recursion: that they come to an end; loops over a list, as scans. -/
namespace Go.Proofs.Ytcphpbhngnnpmaa
open Go.RowKit
section
variable {α σ τ S : Type}
/-- A loop that keeps I, and whose measure falls, ends; what it ends with is as each last round says. -/
theorem loopO_post {f : σ → Option (σ ⊕ τ)} (I : σ → Prop) (μ : σ → Nat) (Q : τ → Prop) (h : ∀ s, I s → (∃ s', f s = some (.inl s') ∧ I s' ∧ μ s' < μ s) ∨ (∃ r, f s = some (.inr r) ∧ Q r)) : ∀ (N : Nat) (s : σ), I s → μ s < N → ∃ r, loopO f N s = some r ∧ Q r
  | 0, s, _, hm => absurd hm (Nat.not_lt_zero _)
  | N + 1, s, hI, hm => by
    rcases h s hI with ⟨s', h1, h2, h3⟩ | ⟨r, h1, h2⟩
    · obtain ⟨r, h4, h5⟩ := loopO_post I μ Q h N s' h2 (by omega)
      exact ⟨r, by simp only [loopO, h1]; exact h4, h5⟩
    · exact ⟨r, by simp only [loopO, h1], h2⟩
/-- Along a list, till one says that it is done. -/
def scanO (g : σ → α → Option (σ ⊕ τ)) (fin : σ → τ) : σ → List α → Option τ
  | a, [] => some (fin a)
  | a, x :: l => match g a x with
    | none => none
    | some (.inl a') => scanO g fin a' l
    | some (.inr r) => some r
/-- The same, with the place. -/
def scanI (g : σ → Int → α → Option (σ ⊕ τ)) (fin : σ → τ) : σ → Nat → List α → Option τ
  | a, _, [] => some (fin a)
  | a, k, x :: l => match g a (k : Int) x with
    | none => none
    | some (.inl a') => scanI g fin a' (k + 1) l
    | some (.inr r) => some r
theorem loopO_scanI_at (l : List α) (mk : σ → Int → S) (f : S → Option (S ⊕ τ)) (g : σ → Int → α → Option (σ ⊕ τ)) (fin : σ → τ)
    (hstep : ∀ (k : Nat) (a : σ) (x : α), l[k]? = some x → f (mk a (k : Int)) = (g a (k : Int) x).map (fun o => match o with | .inl a' => .inl (mk a' ((k + 1 : Nat) : Int)) | .inr r => .inr r))
    (hend : ∀ a, f (mk a (l.length : Int)) = some (.inr (fin a))) : ∀ (N k : Nat) (a : σ), k ≤ l.length → l.length - k < N → loopO f N (mk a (k : Int)) = scanI g fin a k (l.drop k)
  | 0, k, a, _, hN => absurd hN (Nat.not_lt_zero _)
  | N + 1, k, a, hk, hN => by
    by_cases hlt : k < l.length
    · have hx : l[k]? = some l[k] := List.getElem?_eq_getElem hlt
      have hd : l.drop k = l[k] :: l.drop (k + 1) := (List.getElem_cons_drop hlt).symm
      rw [hd]
      simp only [loopO, hstep k a _ hx, scanI]
      cases hg : g a (k : Int) l[k] with
      | none => rfl
      | some o =>
        cases o with
        | inl a' => exact loopO_scanI_at l mk f g fin hstep hend N (k + 1) a' hlt (by omega)
        | inr r => rfl
    · have : k = l.length := by omega
      subst this
      simp only [loopO, hend a, List.drop_length, scanI]
theorem loopO_scanI (l : List α) (mk : σ → Int → S) {f : S → Option (S ⊕ τ)} (g : σ → Int → α → Option (σ ⊕ τ)) (fin : σ → τ) {N : Nat} (hN : l.length < N)
    (hstep : ∀ (k : Nat) (a : σ) (x : α), l[k]? = some x → f (mk a (k : Int)) = (g a (k : Int) x).map (fun o => match o with | .inl a' => .inl (mk a' ((k + 1 : Nat) : Int)) | .inr r => .inr r))
    (hend : ∀ a, f (mk a (l.length : Int)) = some (.inr (fin a))) (a : σ) : loopO f N (mk a 0) = scanI g fin a 0 l := by
  have := loopO_scanI_at l mk f g fin hstep hend N 0 a (Nat.zero_le _) (by omega)
  rwa [List.drop_zero] at this
theorem iteB {γ : Type} {c : Prop} [Decidable c] {a a' b b' : γ} (h1 : a = a') (h2 : b = b') : (if c then a else b) = if c then a' else b' := by rw [h1, h2]
theorem map_bindO {β γ δ : Type} (o : Option β) (k : β → Option γ) (f : γ → δ) : (o.bind k).map f = o.bind fun x => (k x).map f := by cases o <;> rfl
theorem map_iteO {γ δ : Type} {c : Bool} (a b : Option γ) (f : γ → δ) : (if c = true then a else b).map f = if c = true then a.map f else b.map f := by cases c <;> rfl
theorem map_lrO {β γ δ ε : Type} (o : β ⊕ γ) (a : β → Option δ) (b : γ → Option δ) (f : δ → ε) : (match o with | .inr y => b y | .inl x => a x).map f = match o with | .inr y => (b y).map f | .inl x => (a x).map f := by cases o <;> rfl
theorem loopO_scan_at (l : List α) (mk : σ → Int → S) (f : S → Option (S ⊕ τ)) (g : σ → α → Option (σ ⊕ τ)) (fin : σ → τ)
    (hstep : ∀ (k : Nat) (a : σ) (x : α), l[k]? = some x → f (mk a (k : Int)) = (g a x).map (fun o => match o with | .inl a' => .inl (mk a' ((k + 1 : Nat) : Int)) | .inr r => .inr r))
    (hend : ∀ a, f (mk a (l.length : Int)) = some (.inr (fin a))) : ∀ (N k : Nat) (a : σ), k ≤ l.length → l.length - k < N → loopO f N (mk a (k : Int)) = scanO g fin a (l.drop k)
  | 0, k, a, _, hN => absurd hN (Nat.not_lt_zero _)
  | N + 1, k, a, hk, hN => by
    by_cases hlt : k < l.length
    · have hx : l[k]? = some l[k] := List.getElem?_eq_getElem hlt
      have hd : l.drop k = l[k] :: l.drop (k + 1) := (List.getElem_cons_drop hlt).symm
      rw [hd]
      simp only [loopO, hstep k a _ hx, scanO]
      cases hg : g a l[k] with
      | none => rfl
      | some o =>
        cases o with
        | inl a' => exact loopO_scan_at l mk f g fin hstep hend N (k + 1) a' hlt (by omega)
        | inr r => rfl
    · have : k = l.length := by omega
      subst this
      simp only [loopO, hend a, List.drop_length, scanO]
/-- A loop over a list from its start. -/
theorem loopO_scan (l : List α) (mk : σ → Int → S) {f : S → Option (S ⊕ τ)} (g : σ → α → Option (σ ⊕ τ)) (fin : σ → τ) {N : Nat} (hN : l.length < N)
    (hstep : ∀ (k : Nat) (a : σ) (x : α), l[k]? = some x → f (mk a (k : Int)) = (g a x).map (fun o => match o with | .inl a' => .inl (mk a' ((k + 1 : Nat) : Int)) | .inr r => .inr r))
    (hend : ∀ a, f (mk a (l.length : Int)) = some (.inr (fin a))) (a : σ) : loopO f N (mk a 0) = scanO g fin a l := by
  have := loopO_scan_at l mk f g fin hstep hend N 0 a (Nat.zero_le _) (by omega)
  rwa [List.drop_zero] at this
/-- How far a walk goes whose test holds of the first ones. -/
theorem loopO_upto_at (l : List α) (p : α → Bool) {f : Int → Option (Int ⊕ Int)} (hstep : ∀ (k : Nat) (x : α), l[k]? = some x → f (k : Int) = if p x = true then some (.inl ((k + 1 : Nat) : Int)) else some (.inr (k : Int))) (hend : f (l.length : Int) = some (.inr (l.length : Int))) :
    ∀ (N k : Nat), k ≤ l.length → l.length - k < N → loopO f N (k : Int) = some ((k + ((l.drop k).takeWhile p).length : Nat) : Int)
  | 0, k, _, hN => absurd hN (Nat.not_lt_zero _)
  | N + 1, k, hk, hN => by
    by_cases hlt : k < l.length
    · have hx : l[k]? = some l[k] := List.getElem?_eq_getElem hlt
      have hd : l.drop k = l[k] :: l.drop (k + 1) := (List.getElem_cons_drop hlt).symm
      simp only [loopO, hstep k _ hx]
      rw [hd, List.takeWhile_cons]
      cases hp : p l[k] with
      | true =>
        simp only [if_true]
        rw [loopO_upto_at l p hstep hend N (k + 1) hlt (by omega)]
        simp only [List.length_cons]
        congr 2
        omega
      | false => simp
    · have : k = l.length := by omega
      subst this
      simp only [loopO, hend, List.drop_length, List.takeWhile_nil, List.length_nil, Nat.add_zero]
theorem loopO_upto (l : List α) (p : α → Bool) {f : Int → Option (Int ⊕ Int)} {N : Nat} (hN : l.length < N) (hstep : ∀ (k : Nat) (x : α), l[k]? = some x → f (k : Int) = if p x = true then some (.inl ((k + 1 : Nat) : Int)) else some (.inr (k : Int))) (hend : f (l.length : Int) = some (.inr (l.length : Int))) :
    loopO f N 0 = some ((l.takeWhile p).length : Int) := by
  have := loopO_upto_at l p hstep hend N 0 (Nat.zero_le _) (by omega)
  simpa using this
theorem takeWhile_le (p : α → Bool) (l : List α) : (l.takeWhile p).length ≤ l.length := (List.takeWhile_sublist p).length_le
theorem hiO_at {l : List α} {k : Nat} (h : k ≤ l.length) : hiO l (k : Int) = some (l.take k) := by
  unfold hiO
  rw [if_pos ⟨Int.natCast_nonneg k, by rw [Int.toNat_natCast]; exact h⟩, Int.toNat_natCast]
theorem loO_at {l : List α} {k : Nat} (h : k ≤ l.length) : loO l (k : Int) = some (l.drop k) := by
  unfold loO
  rw [if_pos ⟨Int.natCast_nonneg k, by rw [Int.toNat_natCast]; exact h⟩, Int.toNat_natCast]
theorem appO_at {l m : List α} (h : l.length + m.length ≤ 1000000) : appO l m = some (l ++ m) := by unfold appO; rw [if_pos h]
/-- A scan each of whose rounds goes well: I speaks of how many are behind. -/
theorem scanO_post {g : σ → α → Option (σ ⊕ τ)} {fin : σ → τ} (I : Nat → σ → Prop) (Q : τ → Prop) : ∀ (l : List α) (k : Nat) (a : σ), (∀ (j : Nat) (a : σ) (x : α), l[j]? = some x → I (k + j) a → ∃ o, g a x = some o ∧ (∀ a', o = .inl a' → I (k + j + 1) a') ∧ ∀ r, o = .inr r → Q r) → (∀ a, I (k + l.length) a → Q (fin a)) → I k a → ∃ r, scanO g fin a l = some r ∧ Q r
  | [], k, a, _, hf, hI => ⟨fin a, rfl, hf a hI⟩
  | x :: l, k, a, h, hf, hI => by
    obtain ⟨o, h1, h2, h3⟩ := h 0 a x rfl hI
    cases o with
    | inl a' =>
      obtain ⟨r, h4, h5⟩ := scanO_post I Q l (k + 1) a' (fun j a x hj hI => by
        have := h (j + 1) a x hj (by rw [show k + (j + 1) = k + 1 + j by omega]; exact hI)
        rw [show k + (j + 1) + 1 = k + 1 + j + 1 by omega] at this
        exact this) (fun a hI => hf a (by rw [List.length_cons, show k + (l.length + 1) = k + 1 + l.length by omega]; exact hI)) (h2 a' rfl)
      exact ⟨r, by simp only [scanO, h1]; exact h4, h5⟩
    | inr r => exact ⟨r, by simp only [scanO, h1], h3 r rfl⟩
theorem idxO_inn {l : List α} {i : Int} (h0 : 0 ≤ i) (h1 : i < (l.length : Int)) : ∃ x, idxO l i = some x ∧ x ∈ l := by
  unfold idxO
  rw [if_pos h0]
  have : i.toNat < l.length := by omega
  exact ⟨l[i.toNat], List.getElem?_eq_getElem this, List.getElem_mem this⟩
theorem orB (a b : Bool) : (if a = true then some true else some b) = some (a || b) := by cases a <;> rfl
theorem andB (a b : Bool) : (if a = true then some b else some false) = some (a && b) := by cases a <;> rfl
/-- What a list's elements of a kind come to, one by one. -/
theorem scanO_filter (p : α → Bool) (q : α → σ) {ρ : Type} (fin : List σ → ρ) : ∀ (l : List α) (acc : List σ), acc.length + l.length ≤ 1000000 → scanO (fun acc x => if p x = true then (appO acc [q x]).map (fun a => (.inl a : List σ ⊕ ρ)) else some (.inl acc)) fin acc l = some (fin (acc ++ (l.filter p).map q))
  | [], acc, _ => by simp [scanO]
  | x :: l, acc, h => by
    simp only [List.length_cons] at h
    simp only [scanO, List.filter_cons]
    cases hp : p x with
    | true =>
      simp only [if_true, appO_at (show acc.length + [q x].length ≤ 1000000 by simp; omega), Option.map_some]
      rw [scanO_filter p q fin l _ (by simp; omega)]
      simp
    | false => simpa using scanO_filter p q fin l acc (by omega)
/-- An element is put in the order of keys, in the place of the one with its key. -/
def putKey (key : α → Int) (l : List α) (a : α) : List α :=
  l.take (l.takeWhile fun x => decide (key x < key a)).length ++ a :: l.drop (match l[(l.takeWhile fun x => decide (key x < key a)).length]? with | some x => if (key x == key a) = true then (l.takeWhile fun x => decide (key x < key a)).length + 1 else (l.takeWhile fun x => decide (key x < key a)).length | none => (l.takeWhile fun x => decide (key x < key a)).length)
theorem idxO_at {l : List α} {k : Nat} {x : α} (h : l[k]? = some x) : idxO l (k : Int) = some x := by
  unfold idxO
  rw [if_pos (Int.natCast_nonneg k), Int.toNat_natCast, h]
theorem ltD_at {l : List α} {k : Nat} {x : α} (h : l[k]? = some x) : decide ((k : Int) < (l.length : Int)) = true := by
  have := (List.getElem?_eq_some_iff.1 h).1
  simpa using this
theorem ltD_end (l : List α) : decide ((l.length : Int) < (l.length : Int)) = false := by simp
theorem wrap_at {k n : Nat} (h : k < n) (hn : n ≤ 1000000) : IntKind.i64.wrap ((k : Int) + 1) = ((k + 1 : Nat) : Int) := snocK k (by omega)
theorem lt_rounds {n : Nat} (h : n ≤ 1000000) : n < rounds := by unfold rounds; omega
/-- Where nothing stops it, a scan is a fold. -/
theorem scanO_fold (h : σ → α → σ) (fin : σ → τ) : ∀ (l : List α) (a : σ), scanO (fun a x => some (.inl (h a x))) fin a l = some (fin (l.foldl h a))
  | [], _ => rfl
  | x :: l, a => scanO_fold h fin l (h a x)
/-- The first of a kind. -/
theorem scanO_find (p : α → Bool) (q : α → τ) (d : τ) : ∀ l : List α, scanO (fun (_ : Unit) x => if p x = true then some (.inr (q x)) else some (.inl ())) (fun _ => d) () l = some (((l.find? p).map q).getD d)
  | [] => rfl
  | x :: l => by
    simp only [scanO, List.find?_cons]
    cases hp : p x with
    | true => rfl
    | false => simpa using scanO_find p q d l
end
end Go.Proofs.Ytcphpbhngnnpmaa

/- The typed executor: types of data. -/
namespace Go.Proofs.Ytcphpbhngnnpmaa
open Go.RowKit

/-- Types of what lies in one cell, or in an element of a slice; st i is the struct of number i. -/
inductive Ty where
  | int (k : IntKind)
  | bool
  | str
  | sl (t : Ty)
  | st (i : Nat)
def Ty.same : (a b : Ty) → Option (PLift (a = b))
  | .int j, .int k => if h : j = k then some ⟨by rw [h]⟩ else none
  | .bool, .bool => some ⟨rfl⟩
  | .str, .str => some ⟨rfl⟩
  | .sl a, .sl b => match Ty.same a b with | some ⟨h⟩ => some ⟨by rw [h]⟩ | none => none
  | .st i, .st j => if h : i = j then some ⟨by rw [h]⟩ else none
  | _, _ => none
def lhO {α : Type} (l : List α) (a b : Int) : Option (List α) := if 0 ≤ a ∧ 0 ≤ b ∧ a.toNat ≤ b.toNat ∧ b.toNat ≤ l.length then some ((l.drop a.toNat).take (b.toNat - a.toNat)) else none
end Go.Proofs.Ytcphpbhngnnpmaa

/- The structs, by number (written by gen_st.py). -/
namespace Go.Proofs.Ytcphpbhngnnpmaa
open Go.RowKit
def ST : Nat → Type
  | 0 => GVec
  | 1 => GAsk
  | 2 => GNode
  | _ => Unit
def Ty.den : Ty → Type
  | .int _ => Int
  | .bool => Bool
  | .str => ByteArray
  | .sl t => List (Ty.den t)
  | .st i => ST i
/-- One cell. -/
inductive SD where
  | int (k : IntKind) (x : Int)
  | bool (b : Bool)
  | str (s : ByteArray)
  | sl (t : Ty) (xs : List t.den)
  | nl
def stD : (i : Nat) → ST i → List D
  | 0, x => GVec.d x
  | 1, x => GAsk.d x
  | 2, x => GNode.d x
  | _ + 3, _ => []
def encE : (t : Ty) → t.den → List D
  | .int k, x => [.v (.int k x)]
  | .bool, x => [.v (.bool x)]
  | .str, x => [.v (.string x)]
  | .sl t, xs => [.sl (List.map (encE t) xs)]
  | .st i, x => stD i x
def castL {t u : Ty} (h : t = u) (xs : List t.den) : List u.den := h ▸ xs
def SD.toD : SD → D
  | .int k x => .v (.int k x)
  | .bool x => .v (.bool x)
  | .str x => .v (.string x)
  | .sl t xs => .sl (List.map (encE t) xs)
  | .nl => .sl []
def SD.as : (t : Ty) → SD → Option t.den
  | .int k, .int k' x => if k' = k then some x else none
  | .bool, .bool x => some x
  | .str, .str x => some x
  | .sl t, .sl t' xs => match Ty.same t' t with | some ⟨h⟩ => some (castL h xs) | none => none
  | .sl t, .nl => some ([] : List t.den)
  | _, _ => none
def enc1 : (t : Ty) → t.den → SD
  | .int k, x => .int k x
  | .bool, x => .bool x
  | .str, x => .str x
  | .sl t, xs => .sl t xs
  | .st _, _ => .nl
def stN : Nat → Nat
  | 0 => 2
  | 1 => 8
  | 2 => 8
  | _ => 0
def stOf : TypeId → Option Nat
  | 23 => some 0
  | 25 => some 1
  | 27 => some 2
  | _ => none
/-- May it be kept without the memory? -/
def stF : Nat → Bool
  | 0 => true
  | 1 => true
  | 2 => true
  | _ => true
def stC : (i : Nat) → ST i → List SD
  | 0, (x : GVec) => [.int .i64 x.fMem, .int .i64 x.fCores]
  | 1, (x : GAsk) => [.int .i64 x.fPrio, .int .i64 x.fLabel, .int .i64 x.fSize.fMem, .int .i64 x.fSize.fCores, .int .i64 x.fCount, .int .i64 x.fNode, .int .i64 x.fRack, .int .i64 x.fMissed]
  | 2, (x : GNode) => [.int .i64 x.fId, .int .i64 x.fLabel, .int .i64 x.fRack, .int .i64 x.fCap.fMem, .int .i64 x.fCap.fCores, .int .i64 x.fSeen, .int .i64 x.fBeat, .bool x.fUp]
  | _ + 3, _ => []
def GVec.k : List SD → Option GVec
  | c0 :: c1 :: [] => Option.bind (c0.as (.int .i64)) fun x0 => Option.bind (c1.as (.int .i64)) fun x1 => some (⟨x0, x1⟩ : GVec)
  | _ => none
def GAsk.k : List SD → Option GAsk
  | c0 :: c1 :: c2 :: c3 :: c4 :: c5 :: c6 :: c7 :: [] => Option.bind (c0.as (.int .i64)) fun x0 => Option.bind (c1.as (.int .i64)) fun x1 => Option.bind (c2.as (.int .i64)) fun x2 => Option.bind (c3.as (.int .i64)) fun x3 => Option.bind (c4.as (.int .i64)) fun x4 => Option.bind (c5.as (.int .i64)) fun x5 => Option.bind (c6.as (.int .i64)) fun x6 => Option.bind (c7.as (.int .i64)) fun x7 => some (⟨x0, x1, ⟨x2, x3⟩, x4, x5, x6, x7⟩ : GAsk)
  | _ => none
def GNode.k : List SD → Option GNode
  | c0 :: c1 :: c2 :: c3 :: c4 :: c5 :: c6 :: c7 :: [] => Option.bind (c0.as (.int .i64)) fun x0 => Option.bind (c1.as (.int .i64)) fun x1 => Option.bind (c2.as (.int .i64)) fun x2 => Option.bind (c3.as (.int .i64)) fun x3 => Option.bind (c4.as (.int .i64)) fun x4 => Option.bind (c5.as (.int .i64)) fun x5 => Option.bind (c6.as (.int .i64)) fun x6 => Option.bind (c7.as (.bool)) fun x7 => some (⟨x0, x1, x2, ⟨x3, x4⟩, x5, x6, x7⟩ : GNode)
  | _ => none
def stK : (i : Nat) → List SD → Option (ST i)
  | 0, cs => GVec.k cs
  | 1, cs => GAsk.k cs
  | 2, cs => GNode.k cs
  | _ + 3, _ => none
theorem SD.as_ok {t : Ty} {c : SD} {x : t.den} (h : c.as t = some x) : encE t x = [c.toD] := by
  unfold SD.as at h
  split at h
  · split at h
    · rename_i hk
      subst hk
      injection h with h
      subst h
      rfl
    · cases h
  · injection h with h
    subst h
    rfl
  · injection h with h
    subst h
    rfl
  · split at h
    · rename_i hk _
      subst hk
      injection h with h
      subst h
      rfl
    · cases h
  · injection h with h
    subst h
    rfl
  · cases h
theorem stC_ok : ∀ (i : Nat) (x : ST i), (stC i x).map SD.toD = stD i x
  | 0, (x : GVec) => rfl
  | 1, (x : GAsk) => rfl
  | 2, (x : GNode) => rfl
  | _ + 3, _ => rfl
theorem stC_nl : ∀ (i : Nat) (x : ST i) (c : SD), c ∈ stC i x → c ≠ .nl
  | 0, (x : GVec), c, h => by
    simp only [stC, List.mem_cons, List.not_mem_nil, or_false] at h
    rcases h with rfl | rfl <;> (intro e; cases e)
  | 1, (x : GAsk), c, h => by
    simp only [stC, List.mem_cons, List.not_mem_nil, or_false] at h
    rcases h with rfl | rfl | rfl | rfl | rfl | rfl | rfl | rfl <;> (intro e; cases e)
  | 2, (x : GNode), c, h => by
    simp only [stC, List.mem_cons, List.not_mem_nil, or_false] at h
    rcases h with rfl | rfl | rfl | rfl | rfl | rfl | rfl | rfl <;> (intro e; cases e)
  | _ + 3, _, c, h => by cases h
theorem stD_len : ∀ (i : Nat) (x : ST i), (stD i x).length = stN i
  | 0, (x : GVec) => rfl
  | 1, (x : GAsk) => rfl
  | 2, (x : GNode) => rfl
  | _ + 3, _ => rfl
theorem stF_ok : ∀ (i : Nat) (x : ST i), stF i = true → ∀ d ∈ stD i x, ∃ y, d = .v y
  | 0, (x : GVec), _, d, h => by
    simp only [stD, GVec.d, List.mem_cons, List.not_mem_nil, or_false] at h
    rcases h with rfl | rfl <;> exact ⟨_, rfl⟩
  | 1, (x : GAsk), _, d, h => by
    simp only [stD, GAsk.d, List.mem_cons, List.not_mem_nil, or_false] at h
    rcases h with rfl | rfl | rfl | rfl | rfl | rfl | rfl | rfl <;> exact ⟨_, rfl⟩
  | 2, (x : GNode), _, d, h => by
    simp only [stD, GNode.d, List.mem_cons, List.not_mem_nil, or_false] at h
    rcases h with rfl | rfl | rfl | rfl | rfl | rfl | rfl | rfl <;> exact ⟨_, rfl⟩
  | _ + 3, _, _, _, h => by cases h
theorem bindS {α β : Type} {o : Option α} {k : α → Option β} {r : β} (h : o.bind k = some r) : ∃ x, o = some x ∧ k x = some r := by
  cases o with
  | none => cases h
  | some x => exact ⟨x, rfl, h⟩
set_option maxRecDepth 10000 in
set_option maxHeartbeats 2000000 in
theorem GVec.k_ok {cs : List SD} {x : GVec} (h : GVec.k cs = some x) : cs.map SD.toD = GVec.d x := by
  unfold GVec.k at h
  split at h
  · rename_i c0 c1
    obtain ⟨x0, e0, h⟩ := bindS h
    obtain ⟨x1, e1, h⟩ := bindS h
    injection h with h
    subst h
    have q0 := SD.as_ok e0
    clear e0
    have q1 := SD.as_ok e1
    clear e1
    simp only [encE, List.cons.injEq, and_true] at q0 q1
    simp only [List.map_cons, List.map_nil, GVec.d, ← q0, ← q1]
    try rfl
  · cases h
set_option maxRecDepth 10000 in
set_option maxHeartbeats 2000000 in
theorem GAsk.k_ok {cs : List SD} {x : GAsk} (h : GAsk.k cs = some x) : cs.map SD.toD = GAsk.d x := by
  unfold GAsk.k at h
  split at h
  · rename_i c0 c1 c2 c3 c4 c5 c6 c7
    obtain ⟨x0, e0, h⟩ := bindS h
    obtain ⟨x1, e1, h⟩ := bindS h
    obtain ⟨x2, e2, h⟩ := bindS h
    obtain ⟨x3, e3, h⟩ := bindS h
    obtain ⟨x4, e4, h⟩ := bindS h
    obtain ⟨x5, e5, h⟩ := bindS h
    obtain ⟨x6, e6, h⟩ := bindS h
    obtain ⟨x7, e7, h⟩ := bindS h
    injection h with h
    subst h
    have q0 := SD.as_ok e0
    clear e0
    have q1 := SD.as_ok e1
    clear e1
    have q2 := SD.as_ok e2
    clear e2
    have q3 := SD.as_ok e3
    clear e3
    have q4 := SD.as_ok e4
    clear e4
    have q5 := SD.as_ok e5
    clear e5
    have q6 := SD.as_ok e6
    clear e6
    have q7 := SD.as_ok e7
    clear e7
    simp only [encE, List.cons.injEq, and_true] at q0 q1 q2 q3 q4 q5 q6 q7
    simp only [List.map_cons, List.map_nil, GAsk.d, ← q0, ← q1, ← q2, ← q3, ← q4, ← q5, ← q6, ← q7]
    try rfl
  · cases h
set_option maxRecDepth 10000 in
set_option maxHeartbeats 2000000 in
theorem GNode.k_ok {cs : List SD} {x : GNode} (h : GNode.k cs = some x) : cs.map SD.toD = GNode.d x := by
  unfold GNode.k at h
  split at h
  · rename_i c0 c1 c2 c3 c4 c5 c6 c7
    obtain ⟨x0, e0, h⟩ := bindS h
    obtain ⟨x1, e1, h⟩ := bindS h
    obtain ⟨x2, e2, h⟩ := bindS h
    obtain ⟨x3, e3, h⟩ := bindS h
    obtain ⟨x4, e4, h⟩ := bindS h
    obtain ⟨x5, e5, h⟩ := bindS h
    obtain ⟨x6, e6, h⟩ := bindS h
    obtain ⟨x7, e7, h⟩ := bindS h
    injection h with h
    subst h
    have q0 := SD.as_ok e0
    clear e0
    have q1 := SD.as_ok e1
    clear e1
    have q2 := SD.as_ok e2
    clear e2
    have q3 := SD.as_ok e3
    clear e3
    have q4 := SD.as_ok e4
    clear e4
    have q5 := SD.as_ok e5
    clear e5
    have q6 := SD.as_ok e6
    clear e6
    have q7 := SD.as_ok e7
    clear e7
    simp only [encE, List.cons.injEq, and_true] at q0 q1 q2 q3 q4 q5 q6 q7
    simp only [List.map_cons, List.map_nil, GNode.d, ← q0, ← q1, ← q2, ← q3, ← q4, ← q5, ← q6, ← q7]
    try rfl
  · cases h
theorem stK_ok : ∀ {i : Nat} {cs : List SD} {x : ST i}, stK i cs = some x → cs.map SD.toD = stD i x
  | 0, _, (_ : GVec), h => GVec.k_ok h
  | 1, _, (_ : GAsk), h => GAsk.k_ok h
  | 2, _, (_ : GNode), h => GNode.k_ok h
  | _ + 3, _, x, h => by
    have h2 : none = some x := h
    cases h2
end Go.Proofs.Ytcphpbhngnnpmaa

/- The typed executor: values, states, operations, code. No proofs here. -/
namespace Go.Proofs.Ytcphpbhngnnpmaa
open Go.RowKit

/-- Typed values: a slot's. re: the address of an element of a row of the call's own, by the pin's number. -/
inductive SV where
  | junk
  | d (x : SD)
  | ag (cs : List SV)
  | tup (cs : List SV)
  | ptr (t off : Nat)
  | row (t : Nat)
  | re (t p off : Nat)
  | fe (cs : List SD)
/-- A pin: which element, and its cells if they are known. -/
structure Pin where
  i : Int
  cs : Option (List SD)
inductive SBox where
  | st (ty : TypeId) (cs : List SV)
  | rw (e k : Nat) (t : Ty) (xs : List t.den) (pins : List (Nat × Pin))
def lkV : List (Nat × SV) → Nat → SV
  | [], _ => .junk
  | (j, v) :: l, i => match Nat.beq i j with | true => v | false => lkV l i
def lkB : List (Nat × Option SBox) → Nat → Option SBox
  | [], _ => none
  | (j, v) :: l, i => match Nat.beq i j with | true => v | false => lkB l i
def lkP : List (Nat × Pin) → Nat → Option Pin
  | [], _ => none
  | (j, v) :: l, i => match Nat.beq i j with | true => some v | false => lkP l i
def memN : List Nat → Nat → Bool
  | [], _ => false
  | j :: l, i => match Nat.beq i j with | true => true | false => memN l i
/-- A state: slots, boxes, the boxes that may not be written, whether none may, and what numbers of boxes may be taken. -/
structure SS where
  sl : List (Nat × SV)
  bx : List (Nat × Option SBox)
  pr : List Nat
  ro : Bool
  oc : List Nat
def wrB (s : SS) (t : Nat) : Bool := match s.ro with | true => false | false => !(memN s.pr t)
def newB (s : SS) (t : Nat) : Bool := match memN s.oc t with | true => false | false => !(memN s.pr t)

/-! ### Elements -/
def encS : (t : Ty) → t.den → List SD
  | .int k, x => [.int k x]
  | .bool, x => [.bool x]
  | .str, x => [.str x]
  | .sl t, xs => [.sl t xs]
  | .st i, x => stC i x
def decS : (t : Ty) → List SD → Option t.den
  | .st i, cs => stK i cs
  | .int k, [c] => c.as (.int k)
  | .bool, [c] => c.as .bool
  | .str, [c] => c.as .str
  | .sl t, [c] => c.as (.sl t)
  | _, _ => none
def tyN : Ty → Nat
  | .st i => stN i
  | _ => 1

/-! ### Values -/
def cellV : Value → Option SD
  | .int k n => some (.int k n)
  | .bool t => some (.bool t)
  | .string s => some (.str s)
  | .slice none 0 0 => some .nl
  | _ => none
def cellsV : List Value → Option (List SV)
  | [] => some []
  | v :: l => match cellV v, cellsV l with | some c, some cs => some (.d c :: cs) | _, _ => none
def constV : Value → SV
  | .agg xs => match cellsV xs.toList with | some cs => .ag cs | none => .junk
  | v => match cellV v with | some c => .d c | none => .junk
def evX (s : SS) : Operand → SV
  | .tmp i => lkV s.sl i
  | .const v => constV v
  | _ => .junk
/-- A slice, as data. -/
def rowX (s : SS) (t : Nat) : Option SD := match lkB s.bx t with
  | some (.rw _ _ ty xs _) => some (.sl ty xs)
  | _ => none
def dataX (s : SS) : SV → Option SD
  | .d x => some x
  | .row t => rowX s t
  | _ => none
def datasX (s : SS) : List SV → Option (List SD)
  | [] => some []
  | v :: l => match dataX s v, datasX s l with | some c, some cs => some (c :: cs) | _, _ => none
/-- The cells of a value that is stored. -/
def cellsX : SV → Option (List SV)
  | .ag cs => some cs
  | .junk => none
  | .tup _ => none
  | v => some [v]
mutual
/-- What may not be read any more once row t has grown. -/
def stale (t : Nat) : SV → SV
  | .row t' => match Nat.beq t' t with | true => .junk | false => .row t'
  | .re t' p o => match Nat.beq t' t with | true => .junk | false => .re t' p o
  | .ag cs => .ag (stales t cs)
  | .tup cs => .tup (stales t cs)
  | v => v
def stales (t : Nat) : List SV → List SV
  | [] => []
  | c :: cs => stale t c :: stales t cs
end
def staleS (t : Nat) : List (Nat × SV) → List (Nat × SV)
  | [] => []
  | (i, v) :: l => (i, stale t v) :: staleS t l
def staleB (t : Nat) : List (Nat × Option SBox) → List (Nat × Option SBox)
  | [] => []
  | (i, some (.st ty cs)) :: l => (i, some (.st ty (stales t cs))) :: staleB t l
  | (i, b) :: l => (i, b) :: staleB t l
/-- What an operation does with the boxes: nothing, a new one, one that is written, a row that grows. -/
inductive Upd where
  | no
  | new (t : Nat) (b : SBox)
  | set (t : Nat) (b : SBox)
  | pin (t : Nat) (b : SBox)
  | grow (t : Nat) (b : SBox)
def updS (sl : List (Nat × SV)) (dst : Option Nat) (v : SV) : List (Nat × SV) := match dst with | some d => (d, v) :: sl | none => sl
def SS.upd (s : SS) (dst : Option Nat) (v : SV) : Upd → SS
  | .no => ⟨updS s.sl dst v, s.bx, s.pr, s.ro, s.oc⟩
  | .new t b => ⟨updS s.sl dst v, (t, some b) :: s.bx, s.pr, s.ro, s.oc⟩
  | .set t b => ⟨updS s.sl dst v, (t, some b) :: s.bx, s.pr, s.ro, s.oc⟩
  | .pin t b => ⟨updS s.sl dst v, (t, some b) :: s.bx, s.pr, s.ro, s.oc⟩
  | .grow t b => ⟨updS (staleS t s.sl) dst v, (t, some b) :: staleB t s.bx, s.pr, s.ro, s.oc⟩

/-! ### Operations -/
def spliceX {α : Type} : List α → Nat → List α → List α
  | cs, 0, [] => cs
  | _ :: cs, 0, n :: ns => n :: spliceX cs 0 ns
  | [], _, _ => []
  | c :: cs, o + 1, ns => c :: spliceX cs o ns
def packX (size : Nat) (agg : Bool) (cl : List SV) : Option SV :=
  if agg then (if size ≤ cl.length then some (.ag (cl.take size)) else none) else cl.head?
def mapD : List SD → List SV
  | [] => []
  | c :: cs => .d c :: mapD cs
variable {ρ : Type}
/-- What needs a condition. -/
def chk (b : Bool) (k : Option ρ) : Option ρ := match b with | true => k | false => none
def isLit : Operand → Option Int
  | .const (.int _ n) => some n
  | _ => none
def arithX (op : BinOp) (kd : IntKind) (lit : Option Int) (x y : Int) (k : SV → Option ρ) : Option ρ :=
  match op with
  | .add => k (.d (.int kd (kd.wrap (x + y))))
  | .sub => k (.d (.int kd (kd.wrap (x - y))))
  | .mul => k (.d (.int kd (kd.wrap (x * y))))
  | .quo => match lit with
    | some n => chk (!(n == 0)) (k (.d (.int kd (kd.wrap (x.tdiv y)))))
    | none => Option.bind (if y = 0 then none else some (kd.wrap (x.tdiv y))) fun q => k (.d (.int kd q))
  | .rem => match lit with
    | some n => chk (!(n == 0)) (k (.d (.int kd (x.tmod y))))
    | none => Option.bind (remO x y) fun q => k (.d (.int kd q))
  | .eql => k (.d (.bool (x == y)))
  | .neq => k (.d (.bool (x != y)))
  | .lss => k (.d (.bool (decide (x < y))))
  | .leq => k (.d (.bool (decide (x ≤ y))))
  | .gtr => k (.d (.bool (decide (x > y))))
  | .geq => k (.d (.bool (decide (x ≥ y))))
  | .and => k (.d (.int kd (bits .and kd x y)))
  | .or => k (.d (.int kd (bits .or kd x y)))
  | .xor => k (.d (.int kd (bits .xor kd x y)))
  | _ => none
def shiftX (op : BinOp) (kd : IntKind) (lit : Option Int) (x y : Int) (k : SV → Option ρ) : Option ρ :=
  match lit with
  | some n => chk (decide (0 ≤ n)) (match op with
    | .shl => k (.d (.int kd (kd.wrap (x * 2 ^ (min y.toNat kd.bits)))))
    | .shr => k (.d (.int kd (x.fdiv (2 ^ (min y.toNat kd.bits)))))
    | _ => none)
  | none => Option.bind (if y < 0 then none else some ()) fun _ => (match op with
    | .shl => k (.d (.int kd (kd.wrap (x * 2 ^ (min y.toNat kd.bits)))))
    | .shr => k (.d (.int kd (x.fdiv (2 ^ (min y.toNat kd.bits)))))
    | _ => none)
def textsX (op : BinOp) (x y : ByteArray) (k : SV → Option ρ) : Option ρ :=
  match op with
  | .add => Option.bind (sCatO x y) fun z => k (.d (.str z))
  | .eql => k (.d (.bool (x.toList == y.toList)))
  | .neq => k (.d (.bool (!(x.toList == y.toList))))
  | .lss => k (.d (.bool (Op.bytesLess x.toList y.toList)))
  | .leq => k (.d (.bool (Op.bytesLess x.toList y.toList || (x.toList == y.toList))))
  | .gtr => k (.d (.bool (!(Op.bytesLess x.toList y.toList || (x.toList == y.toList)))))
  | .geq => k (.d (.bool (!(Op.bytesLess x.toList y.toList))))
  | _ => none
def truthsX (op : BinOp) (x y : Bool) (k : SV → Option ρ) : Option ρ :=
  match op with
  | .eql => k (.d (.bool (x == y)))
  | .neq => k (.d (.bool (!(x == y))))
  | _ => none
def eqLeafX : SD → SD → Option Bool
  | .int k a, .int k' b => if k = k' then some (a == b) else none
  | .bool a, .bool b => some (a == b)
  | .str a, .str b => some (a.toList == b.toList)
  | _, _ => none
def eqByX : List SV → List SV → Option Bool
  | [.d x], [.d y] => eqLeafX x y
  | .d x :: xs, .d y :: ys => match eqLeafX x y, eqByX xs ys with
    | some a, some r => some (a && r)
    | _, _ => none
  | _, _ => none
def leafNo : SV → Option Nat
  | .d (.int _ _) => some 0
  | .d (.bool _) => some 1
  | .d (.str _) => some 2
  | _ => none
def leafNos : List SV → Option (List Nat)
  | [] => some []
  | v :: l => match leafNo v, leafNos l with | some a, some r => some (a :: r) | _, _ => none
def eqNats : List Nat → List Nat → Bool
  | [], [] => true
  | a :: l, b :: m => match Nat.beq a b with | true => eqNats l m | false => false
  | _, _ => false
def binX (P : Program) (op : BinOp) (t : TypeId) (lit : Option Int) (p q : SV) (k : SV → Option ρ) : Option ρ :=
  match p, q with
  | .d (.int kd x), .d (.int kd' y) => match isShift op with
    | true => shiftX op kd lit x y k
    | false => if kd = kd' then arithX op kd lit x y k else none
  | .d (.str x), .d (.str y) => textsX op x y k
  | .d (.bool x), .d (.bool y) => match P.underlying t with
    | some .bool => truthsX op x y k
    | _ => none
  | .ag xs, .ag ys => match eqTy P t, leafNos xs, eqByX xs ys with
    | some l, some l', some r => chk (eqNats l l') (match op with
      | .eql => k (.d (.bool r))
      | .neq => k (.d (.bool (!r)))
      | _ => none)
    | _, _, _ => none
  | _, _ => none
def unX (op : UnOp) (p : SV) (k : SV → Option ρ) : Option ρ :=
  match op, p with
  | .not, .d (.bool x) => k (.d (.bool (!x)))
  | .neg, .d (.int kd x) => k (.d (.int kd (kd.wrap (0 - x))))
  | _, _ => none
def convX (P : Program) (s : SS) (src dst : TypeId) (p : SV) (k : SV → Option ρ) : Option ρ :=
  match P.underlying src with
  | none => none
  | some (.slice e) => (match P.underlying dst with
    | some .string => (match P.underlying e, dataX s p with
      | some (.int .u8), some (.sl (.int .u8) xs) => Option.bind (sOfO (xs : List Int)) fun z => k (.d (.str z))
      | _, _ => none)
    | _ => none)
  | some _ => match P.underlying dst, p with
    | some (.int kd), .d (.int _ x) => k (.d (.int kd (kd.wrap x)))
    | some .string, .d (.str x) => k (.d (.str x))
    | _, _ => none
def fieldAddrX (P : Program) (t : TypeId) (p : SV) (f : Nat) (k : SV → Option ρ) : Option ρ :=
  match (fldsOf P t)[f]? with
  | some (off, size, _) => chk (!(size == 0)) (match p with
    | .ptr t o => k (.ptr t (o + off))
    | .fe cs => k (.fe (cs.drop off))
    | .re t p o => k (.re t p (o + off))
    | _ => none)
  | none => none
def fieldX (P : Program) (t : TypeId) (p : SV) (f : Nat) (k : SV → Option ρ) : Option ρ :=
  match (fldsOf P t)[f]?, p with
  | some (off, size, agg), .ag cs => match packX size agg (cs.drop off) with | some v => k v | none => none
  | _, _ => none
def addrX (s : SS) : SV → Option (List SV)
  | .ptr t off => match lkB s.bx t with | some (.st _ cs) => some (cs.drop off) | _ => none
  | .fe cs => some (mapD cs)
  | .re t p off => match lkB s.bx t with
    | some (.rw _ _ _ _ pins) => match lkP pins p with
      | some ⟨_, some cs⟩ => some (mapD (cs.drop off))
      | _ => none
    | _ => none
  | _ => none
def loadX (P : Program) (s : SS) (t : TypeId) (p : SV) : Option SV :=
  match tinf P t, addrX s p with
  | some i, some cl => packX i.size i.agg cl
  | _, _ => none
def indexAddrX (P : Program) (s : SS) (dst : Option Nat) (t : TypeId) (p q : SV) (k : SV → Upd → Option ρ) : Option ρ :=
  match P.underlying t, q, dst with
  | some (.slice e), .d (.int _ i), some d => match tinf P e with
    | some ie => match p with
      | .d (.sl ty xs) => chk (tyN ty == ie.size) (Option.bind (idxO xs i) fun x => k (.fe (encS ty x)) .no)
      | .row t' => match lkB s.bx t' with
        | some (.rw e' kk ty xs pins) => chk (kk == ie.size) (chk (lkP pins d).isNone (Option.bind (idxO xs i) fun x => k (.re t' d 0) (.pin t' (.rw e' kk ty xs ((d, ⟨i, some (encS ty x)⟩) :: pins)))))
        | _ => none
      | _ => none
    | none => none
  | _, _, _ => none
def rowD : SV → Option SD
  | .d x => some x
  | _ => none
def rowDs : List SV → Option (List SD)
  | [] => some []
  | v :: l => match rowD v, rowDs l with | some c, some cs => some (c :: cs) | _, _ => none
def unpin : List (Nat × Pin) → List (Nat × Pin)
  | [] => []
  | (i, ⟨j, _⟩) :: l => (i, ⟨j, none⟩) :: unpin l
def storeX (P : Program) (s : SS) (t : TypeId) (p q : SV) (k : SV → Upd → Option ρ) : Option ρ :=
  match tinf P t, cellsX q with
  | some i, some ns => match p with
    | .ptr x off => match lkB s.bx x with
      | some (.st ty cs) => chk (ns.length == i.size) (chk (decide (off + ns.length ≤ cs.length)) (chk (wrB s x) (k .junk (.set x (.st ty (spliceX cs off ns))))))
      | _ => none
    | .re x pi off => match lkB s.bx x, rowDs ns with
      | some (.rw e kk ty xs pins), some ds => match lkP pins pi with
        | some ⟨j, cs⟩ => chk (ns.length == i.size) (chk (decide (off + ds.length ≤ tyN ty)) (chk (wrB s x) (match (if ds.length = tyN ty then some ds else cs.map fun cs => spliceX cs off ds) with
          | some cs' => match decS ty cs' with
            | some y => k .junk (.set x (.rw e kk ty (xs.set j.toNat y) ((pi, ⟨j, some (encS ty y)⟩) :: unpin pins)))
            | none => none
          | none => none)))
        | none => none
      | _, _ => none
    | _ => none
  | _, _ => none
def fillX (place : Nat → Option (Nat × Nat)) : List SV → List (Nat × SV) → Option (List SV)
  | cs, [] => some cs
  | cs, (i, p) :: rest => match place i, cellsX p with
    | some (off, size), some ns => chk (ns.length == size) (chk (decide (off + ns.length ≤ cs.length)) (fillX place (spliceX cs off ns) rest))
    | _, _ => none
def zerosX (i : TI) : Option (List SV) := cellsV i.zero
def chunkX : Nat → Nat → List SD → List (List SD)
  | _, 0, _ => []
  | k, n + 1, l => l.take k :: chunkX k n (l.drop k)
def decAll (t : Ty) : List (List SD) → Option (List t.den)
  | [] => some []
  | c :: l => match decS t c, decAll t l with | some x, some xs => some (x :: xs) | _, _ => none
/-- The type of a slice's elements: a guess. -/
def tyOf (P : Program) : Nat → TypeId → Option Ty
  | 0, _ => none
  | d + 1, t => match stOf t with
    | some i => some (.st i)
    | none => match P.underlying t with
      | some (.int k) => some (.int k)
      | some .bool => some .bool
      | some .string => some .str
      | some (.slice e) => (tyOf P d e).map .sl
      | _ => none
def replX {α : Type} : Nat → List α → List α
  | 0, _ => []
  | n + 1, l => l ++ replX n l
def buildSliceX (P : Program) (s : SS) (dst : Option Nat) (t : TypeId) (len : Nat) (parts : List (Nat × SV)) (k : SV → Upd → Option ρ) : Option ρ :=
  match dst, P.underlying t with
  | some d, some (.slice e) => match tinf P e, lkB s.bx d, tyOf P 4 e with
    | some i, none, some ty => match zerosX i with
      | some z => chk (decide (0 < i.size)) (chk (decide (len ≤ 1000)) (chk (decide (len * i.size ≤ 16777216)) (chk (newB s d) (match fillX (fun j => some (j * i.size, i.size)) (replX len z) parts with
        | some cs => match rowDs cs with
          | some ds => match decAll ty (chunkX i.size len ds) with
            | some xs => chk (tyN ty == i.size) (k (.row d) (.new d (.rw e i.size ty xs [])))
            | none => none
          | none => none
        | none => none))))
      | none => none
    | _, _, _ => none
  | _, _ => none
def appendX (P : Program) (s : SS) (dst : Option Nat) (t : TypeId) (p q : SV) (k : SV → Upd → Option ρ) : Option ρ :=
  match P.underlying t, dataX s q with
  | some (.slice e), some (.sl ty ys) => match tinf P e with
    | some i => chk (decide (0 < i.size)) (chk (decide (0 < i.bytes)) (chk (decide (i.bytes ≤ 1000000)) (chk (tyN ty == i.size) (match p with
      | .row x => match lkB s.bx x with
        | some (.rw e' kk ty' xs _) => match Ty.same ty ty' with
          | some ⟨h⟩ => chk (e' == e) (chk (kk == i.size) (chk (wrB s x) (Option.bind (appO xs (castL h ys)) fun zs => k (.row x) (.grow x (.rw e' kk ty' zs [])))))
          | none => none
        | _ => none
      | .d .nl => match dst with
        | some d => match lkB s.bx d with
          | none => chk (newB s d) (Option.bind (appO ([] : List ty.den) ys) fun zs => k (.row d) (.new d (.rw e i.size ty zs [])))
          | some _ => none
        | none => none
      | _ => none))))
    | none => none
  | _, _ => none
def intX : SV → Option Int
  | .d (.int _ i) => some i
  | _ => none
def sliceX (P : Program) (t : TypeId) (p : SV) (lo hi : Option SV) (k : SV → Option ρ) : Option ρ :=
  match P.underlying t, p with
  | some (.slice e), .d (.sl ty xs) => match tinf P e with
    | some i => chk (tyN ty == i.size) (match lo, hi with
      | none, none => k (.d (.sl ty xs))
      | some l, none => match intX l with | some l => Option.bind (loO xs l) fun z => k (.d (.sl ty z)) | none => none
      | none, some h => match intX h with | some h => Option.bind (hiO xs h) fun z => k (.d (.sl ty z)) | none => none
      | some l, some h => match intX l, intX h with | some l, some h => Option.bind (lhO xs l h) fun z => k (.d (.sl ty z)) | _, _ => none)
    | none => none
  | some .string, .d (.str x) => match lo, hi with
      | some l, none => match intX l with | some l => Option.bind (sLoO x l) fun z => k (.d (.str z)) | none => none
      | none, some h => match intX h with | some h => Option.bind (sHiO x h) fun z => k (.d (.str z)) | none => none
      | some l, some h => match intX l, intX h with | some l, some h => Option.bind (sLhO x l h) fun z => k (.d (.str z)) | _, _ => none
      | none, none => none
  | _, _ => none
def minmaxX (mx : Bool) : SV → List SV → Option SV
  | p, [] => some p
  | .d (.int k x), .d (.int _ y) :: l => minmaxX mx (.d (.int k (match mx with | true => if y > x then y else x | false => if y < x then y else x))) l
  | _, _ => none
def lenX (P : Program) (s : SS) (t : TypeId) (v : SV) (k : SV → Option ρ) : Option ρ :=
  match P.underlying t with
  | some (.slice _) => match dataX s v with
    | some (.sl _ xs) => k (.d (.int .i64 (xs.length : Int)))
    | some .nl => k (.d (.int .i64 0))
    | _ => none
  | some .string => match v with
    | .d (.str x) => k (.d (.int .i64 (x.size : Int)))
    | _ => none
  | _ => none
def builtinX (P : Program) (s : SS) (dst : Option Nat) (f : Builtin) (args : List SV) (ts : List TypeId) (k : SV → Upd → Option ρ) : Option ρ :=
  match f with
  | .len => (match args, ts with | [x], [t] => lenX P s t x fun v => k v .no | _, _ => none)
  | .append => (match args, ts with | [x, y], [t, t'] => (match Nat.beq t' t with | true => appendX P s dst t x y k | false => none) | _, _ => none)
  | .min => (match args with | x :: xs => (match minmaxX false x xs with | some v => k v .no | none => none) | _ => none)
  | .max => (match args with | x :: xs => (match minmaxX true x xs with | some v => k v .no | none => none) | _ => none)
  | _ => none
def partsX (s : SS) : List (Nat × Operand) → List (Nat × SV)
  | [] => []
  | (i, x) :: l => (i, evX s x) :: partsX s l
def evsX (s : SS) : List Operand → List SV
  | [] => []
  | x :: l => evX s x :: evsX s l
def pickX (c : Bool) (v w : SV) : Option SV :=
  match v, w with
  | .d (.int k x), .d (.int k' y) => if k = k' then some (.d (.int k (if c = true then x else y))) else none
  | .d (.bool x), .d (.bool y) => some (.d (.bool (if c = true then x else y)))
  | .d (.str x), .d (.str y) => some (.d (.str (if c = true then x else y)))
  | v, w => match c with | true => some v | false => some w
def effX (P : Program) (o : Oper) (s : SS) (k : SV → Upd → Option ρ) : Option ρ :=
  match o.op with
  | .move x => k (evX s x) .no
  | .assign x => k (evX s x) .no
  | .pick c x y => match evX s c with
    | .d (.bool t) => match pickX t (evX s x) (evX s y) with | some v => k v .no | none => none
    | _ => none
  | .alloc e => match o.dst, tinf P e with
    | some t, some i => match lkB s.bx t, zerosX i with
      | none, some z => chk (newB s t) (k (.ptr t 0) (.new t (.st e z)))
      | _, _ => none
    | _, _ => none
  | .box e x => match o.dst, cellsX (evX s x) with
    | some t, some cs => match lkB s.bx t with
      | none => chk (newB s t) (k (.ptr t 0) (.new t (.st e cs)))
      | some _ => none
    | _, _ => none
  | .build t ps => match tinf P t, fldsO P t with
    | some i, some fl => match zerosX i with
      | some z => (match fillX (fun j => (fl[j]?).map fun x => (x.1, x.2.1)) z (partsX s ps.toList) with | some cs => k (.ag cs) .no | none => none)
      | none => none
    | _, _ => none
  | .buildSlice t n ps => buildSliceX P s o.dst t n (partsX s ps.toList) k
  | .load t x => match loadX P s t (evX s x) with | some v => k v .no | none => none
  | .store t x y => storeX P s t (evX s x) (evX s y) k
  | .binOp op t x y _ => binX P op t (isLit y) (evX s x) (evX s y) fun v => k v .no
  | .unOp op _ x => unX op (evX s x) fun v => k v .no
  | .convert src dst x => convX P s src dst (evX s x) fun v => k v .no
  | .slice t x lo hi none => sliceX P t (evX s x) (lo.map (evX s)) (hi.map (evX s)) fun v => k v .no
  | .fieldAddr t x f => fieldAddrX P t (evX s x) f fun v => k v .no
  | .field t x f => fieldX P t (evX s x) f fun v => k v .no
  | .indexAddr t x i => indexAddrX P s o.dst t (evX s x) (evX s i) k
  | .extract x i => match evX s x with
    | .tup vs => match vs[i]? with | some v => k v .no | none => none
    | _ => none
  | .index t x i => match P.underlying t, evX s x, evX s i with
    | some .string, .d (.str x), .d (.int _ i) => Option.bind (sIdxO x i) fun z => k (.d (.int .u8 z)) .no
    | _, _, _ => none
  | .call c => match c.callee with
    | .builtin f => builtinX P s o.dst f (evsX s c.args.toList) c.argTypes.toList k
    | _ => none
  | _ => none
end Go.Proofs.Ytcphpbhngnnpmaa

/- The typed executor: calls, regions, code. No proofs here. -/
namespace Go.Proofs.Ytcphpbhngnnpmaa
open Go.RowKit

/-! ### Parameters and results -/
inductive PT where
  | lf (t : Ty)
  | ag (i : Nat)
def PT.den : PT → Type
  | .lf t => t.den
  | .ag i => ST i
def PT.flat : PT → Bool
  | .lf (.int _) => true
  | .lf .bool => true
  | .lf .str => true
  | .lf _ => false
  | .ag i => stF i
def encA : (p : PT) → p.den → SV
  | .lf t, x => .d (enc1 t x)
  | .ag i, x => .ag (mapD (stC i x))
def decA (s : SS) : (p : PT) → SV → Option p.den
  | .lf t, v => match dataX s v with | some c => c.as t | none => none
  | .ag i, .ag cs => match datasX s cs with | some cs => stK i cs | none => none
  | .ag _, _ => none
def dens : List PT → Type
  | [] => Unit
  | p :: ps => p.den × dens ps
def densR : List PT → Type
  | [] => Unit
  | [p] => p.den
  | p :: q :: l => p.den × densR (q :: l)
def encAs : (ps : List PT) → dens ps → List SV
  | [], _ => []
  | p :: ps, x => encA p x.1 :: encAs ps x.2
def decAs (s : SS) : (ps : List PT) → List SV → Option (dens ps)
  | [], [] => some ()
  | p :: ps, v :: vs => Option.bind (decA s p v) fun x => Option.bind (decAs s ps vs) fun xs => some (x, xs)
  | _, _ => none
def encRs : (rs : List PT) → densR rs → List SV
  | [], _ => []
  | [p], x => [encA p x]
  | p :: q :: l, x => encA p x.1 :: encRs (q :: l) x.2
def encR (rs : List PT) (x : densR rs) : SV := match rs, x with
  | [p], x => encA p x
  | rs, x => .tup (encRs rs x)
def decRs (s : SS) : (rs : List PT) → List SV → Option (densR rs)
  | [], [] => some ()
  | [p], [v] => decA s p v
  | p :: q :: l, v :: vs => Option.bind (decA s p v) fun x => Option.bind (decRs s (q :: l) vs) fun xs => some (x, xs)
  | _, _ => none
def flatAll : List PT → Bool
  | [] => true
  | p :: l => match p.flat with | true => flatAll l | false => false
/-- No parameter is a struct that is said to be one cell. -/
def ptOk : PT → Bool
  | .lf (.st _) => false
  | _ => true
def ptsOk : List PT → Bool
  | [] => true
  | p :: l => match ptOk p with | true => ptsOk l | false => false
/-- What is known of a function: what it answers to what. -/
structure Ent where
  ps : List PT
  rs : List PT
  f : dens ps → Option (densR rs)
def lkE : List (Nat × Ent) → Nat → Option Ent
  | [], _ => none
  | (j, v) :: l, i => match Nat.beq i j with | true => some v | false => lkE l i
mutual
/-- No row of the call's own is in it. -/
def norow : SV → Bool
  | .row _ => false
  | .ptr _ _ => false
  | .re _ _ _ => false
  | .ag cs => norows cs
  | .tup cs => norows cs
  | _ => true
def norows : List SV → Bool
  | [] => true
  | c :: cs => match norow c with | true => norows cs | false => false
end
section
variable {ρ : Type}
def callX (T : List (Nat × Ent)) (f : Nat) (s : SS) (args : List SV) (k : SV → Option ρ) : Option ρ :=
  match lkE T f with
  | none => none
  | some en => chk (ptsOk en.rs) (chk (norows args || flatAll en.rs) (Option.bind (decAs s en.ps args) fun x => Option.bind (en.f x) fun r => k (encR en.rs r)))
/-! ### Regions -/
/-- A slot that holds a truth, now known. -/
def known (s : SS) (x : Operand) (b : Bool) : SS := match x with
  | .tmp i => ⟨(i, .d (.bool b)) :: s.sl, s.bx, s.pr, s.ro, s.oc⟩
  | _ => s
/-- The operations up to the pick that hangs on slot g, what it writes, and those behind it. -/
def uptoG (g : Nat) : List Oper → Option (List Oper × Nat × List Oper)
  | [] => none
  | o :: l => match (match o.op, o.dst with | .pick (.tmp g') _ _, some d => (match Nat.beq g' g with | true => some d | false => none) | _, _ => none) with
    | some d => some ([o], d, l)
    | none => match uptoG g l with
      | some (a, d, b) => some (o :: a, d, b)
      | none => none
def dstsOf : List Oper → List Nat
  | [] => []
  | o :: l => match o.dst with | some d => d :: dstsOf l | none => dstsOf l
def junkAll : List Nat → List (Nat × SV) → List (Nat × SV)
  | [], l => l
  | d :: ds, l => (d, .junk) :: junkAll ds l
def truthOf (d : Nat) (s : SS) : Option Bool := match lkV s.sl d with | .d (.bool b) => some b | _ => none
/-! ### Rows that become data -/
mutual
def frzV (t : Nat) (c : SD) : SV → SV
  | .row t' => match Nat.beq t' t with | true => .d c | false => .row t'
  | .re t' p o => match Nat.beq t' t with | true => .junk | false => .re t' p o
  | .ag cs => .ag (frzVs t c cs)
  | .tup cs => .tup (frzVs t c cs)
  | v => v
def frzVs (t : Nat) (c : SD) : List SV → List SV
  | [] => []
  | v :: vs => frzV t c v :: frzVs t c vs
end
def frzSl (t : Nat) (c : SD) : List (Nat × SV) → List (Nat × SV)
  | [] => []
  | (i, v) :: l => (i, frzV t c v) :: frzSl t c l
def frzBx (t : Nat) (c : SD) : List (Nat × Option SBox) → List (Nat × Option SBox)
  | [] => []
  | (i, some (.st ty cs)) :: l => (i, some (.st ty (frzVs t c cs))) :: frzBx t c l
  | (i, b) :: l => (i, b) :: frzBx t c l
def frzX (t : Nat) (s : SS) : Option SS := match lkB s.bx t with
  | some (.rw _ _ ty xs _) => match memN s.pr t with
    | false => some ⟨frzSl t (.sl ty xs) s.sl, (t, none) :: frzBx t (.sl ty xs) s.bx, s.pr, s.ro, s.oc⟩
    | true => some s
  | _ => some s
def frzAll : List Nat → SS → Option SS
  | [], s => some s
  | t :: l, s => match frzX t s with | some s => frzAll l s | none => none
mutual
def rowsOf : SV → List Nat
  | .row t => [t]
  | .ag cs => rowsOfs cs
  | _ => []
def rowsOfs : List SV → List Nat
  | [] => []
  | c :: cs => rowsOf c ++ rowsOfs cs
end
def partVs : List (Nat × SV) → List SV
  | [] => []
  | (_, v) :: l => v :: partVs l
/-- Ahead of a call whose answer may share memory, and of a literal, the rows that they are handed become data. -/
def preF (q : Bool) (T : List (Nat × Ent)) (o : Oper) (s : SS) : Option SS := match q, s.ro, o.guard with
  | true, false, none => (match o.op, callOf o with
    | .buildSlice _ _ ps, _ => frzAll (rowsOfs (partVs (partsX s ps.toList))) s
    | _, some (f, xs) => (match lkE T f with
      | some en => (match flatAll en.rs with | true => some s | false => frzAll (rowsOfs (evsX s xs)) s)
      | none => some s)
    | _, _ => some s)
  | _, _, _ => some s
def runX (q : Bool) (P : Program) (T : List (Nat × Ent)) (ops : Array Oper) : Nat → List Nat → List Oper → {ρ : Type} → SS → (SS → Option ρ) → Option ρ
  | _, _, [], _, s, k => k s
  | 0, _, _ :: _, _, _, _ => none
  | n + 1, kn, o :: l, _, s, k =>
    let go := fun (_ : Unit) => match preF q T o s with
      | none => none
      | some s => (match callOf o with
        | some (f, xs) => callX T f s (evsX s xs) fun r => runX q P T ops n kn l (s.upd o.dst r .no) k
        | none => effX P o s fun v u => runX q P T ops n kn l (s.upd o.dst v u) k)
    let skip := fun (_ : Unit) => runX q P T ops n kn l (s.upd o.dst (.tup []) .no) k
    match o.guard with
    | none => go ()
    | some (j, want) => match (ops[j]?).bind (·.dst) with
      | none => none
      | some g => match lkV s.sl g with
        | .tup [] => skip ()
        | .d (.bool b) => (match memN kn g with
          | true => (match b with
            | true => (match want with | true => go () | false => skip ())
            | false => (match want with | true => skip () | false => go ()))
          | false => (match uptoG g (o :: l) with
            | none => none
            | some (l1, d, l2) => Option.bind (if b = true then runX q P T ops n (g :: kn) l1 ⟨(g, .d (.bool true)) :: s.sl, s.bx, s.pr, true, s.oc⟩ (truthOf d) else runX q P T ops n (g :: kn) l1 ⟨(g, .d (.bool false)) :: s.sl, s.bx, s.pr, true, s.oc⟩ (truthOf d)) fun qb =>
              runX q P T ops n kn l2 ⟨(d, .d (.bool qb)) :: junkAll (dstsOf l1) s.sl, s.bx, s.pr, s.ro, dstsOf l1 ++ s.oc⟩ k))
        | _ => none
end
/-- Each operation from the m-th on hangs on all ahead of it. -/
def tailB (m : Nat) (ops : Array Oper) : Bool := (List.range ops.size).all fun i => decide (i < m) || (List.range i).all fun k => hangs ops 4 i k
/-- What addresses a region writes through, and what may turn about. -/
def addrSlots : List Oper → List Nat
  | [] => []
  | o :: l => match o.op with
    | .load _ (.tmp t) => t :: addrSlots l
    | .store _ (.tmp t) _ => t :: addrSlots l
    | .fieldAddr _ (.tmp t) _ => t :: addrSlots l
    | _ => addrSlots l
def isStore : List Oper → Bool
  | [] => false
  | o :: l => match o.op with | .store .. => true | _ => isStore l
def clsRoots (s : SS) (ds : List Nat) : List Nat → List (Nat × Option Nat)
  | [] => []
  | t :: l => match memN ds t with
    | true => clsRoots s ds l
    | false => match lkV s.sl t with
      | .ptr b _ => (t, some b) :: clsRoots s ds l
      | .fe _ => (t, none) :: clsRoots s ds l
      | .re .. => (t, none) :: clsRoots s ds l
      | _ => clsRoots s ds l
def clsMore : List (Nat × Option Nat) → List Oper → List (Nat × Option Nat)
  | c, [] => c
  | c, o :: l => match o.dst, o.op with
    | some d, .fieldAddr _ (.tmp t) _ => (match clsOf c t with | some k => clsMore ((d, k) :: c) l | none => clsMore c l)
    | some d, .indexAddr .. => clsMore ((d, none) :: c) l
    | some d, .alloc _ => clsMore ((d, some d) :: c) l
    | some d, .box .. => clsMore ((d, some d) :: c) l
    | _, _ => clsMore c l
def clsX (s : SS) (ops : List Oper) : List (Nat × Option Nat) := match isStore ops with
  | false => []
  | true => clsMore (clsRoots s (dstsOf ops) (addrSlots ops)) ops
def clsPX : Option Nat → SV → Bool
  | _, .junk => true
  | _, .tup _ => true
  | some b, .ptr t _ => Nat.beq t b
  | none, .fe _ => true
  | none, .re .. => true
  | _, _ => false
def clsOkX (s : SS) : List (Nat × Option Nat) → Bool
  | [] => true
  | (t, k) :: l => match clsPX k (lkV s.sl t) with | true => clsOkX s l | false => false

/-! ### What is kept where ways meet -/
inductive Mod where
  | leaf (i : Nat) (t : Ty)
  | agg (i n : Nat)
  | row (i R e k : Nat) (t : Ty)
  | box (b ty n : Nat) (rows : List (Nat × Nat × Nat × Nat × Ty))
def Mod.den : Mod → Type
  | .leaf _ t => t.den
  | .agg _ n => ST n
  | .row _ _ _ _ t => List t.den
  | .box _ _ n _ => ST n
def modsT : List Mod → Type
  | [] => Unit
  | [m] => m.den
  | m :: m' :: l => m.den × modsT (m' :: l)
def findR : List (Nat × Nat × Nat × Nat × Ty) → Nat → Option (Nat × Nat × Nat × Ty)
  | [], _ => none
  | (j, R, e, k, t) :: l, i => match Nat.beq j i with | true => some (R, e, k, t) | false => findR l i
/-- The cells of a struct, some of which hold rows of the call's own. -/
def cellsOf (s : SS) (rows : List (Nat × Nat × Nat × Nat × Ty)) : Nat → List SV → Option (List SD)
  | _, [] => some []
  | j, c :: cs => match findR rows j with
    | some (R, e, k, t) => (match c, lkB s.bx R with
      | .row R', some (.rw e' k' t' xs _) => (match Ty.same t' t with
        | some ⟨h⟩ => chk (Nat.beq R' R) (chk (e' == e) (chk (k' == k) (match cellsOf s rows (j + 1) cs with | some r => some (.sl t (castL h xs) :: r) | none => none)))
        | none => none)
      | _, _ => none)
    | none => (match c, cellsOf s rows (j + 1) cs with
      | .d x, some r => some (x :: r)
      | _, _ => none)
def isRw : Option SBox → Bool
  | some (.rw ..) => true
  | _ => false
def getM (s : SS) : (m : Mod) → Option m.den
  | .leaf i t => match lkV s.sl i with
    | .d c => c.as t
    | _ => none
  | .agg i n => match lkV s.sl i with
    | .ag cs => (match rowDs cs with | some cs => stK n cs | none => none)
    | _ => none
  | .row i R e k t => match lkV s.sl i, lkB s.bx R with
    | .row R', some (.rw e' k' t' xs _) => match Ty.same t' t with
      | some ⟨h⟩ => chk (Nat.beq R' R) (chk (e' == e) (chk (k' == k) (some (castL h xs))))
      | none => none
    | _, _ => none
  | .box b ty n rows => match lkB s.bx b with
    | some (.st ty' cs) => chk (ty' == ty) (chk (rows.all fun r => isRw (lkB s.bx r.2.1)) (match cellsOf s rows 0 cs with | some ds => stK n ds | none => none))
    | _ => none
def packM (s : SS) : (l : List Mod) → Option (modsT l)
  | [] => some ()
  | [m] => getM s m
  | m :: m' :: l => Option.bind (getM s m) fun x => Option.bind (packM s (m' :: l)) fun xs => some (x, xs)
/-- Cells, some of them as rows of the call's own. -/
def putCells (rows : List (Nat × Nat × Nat × Nat × Ty)) : Nat → List SD → List (Nat × Option SBox) → Option (List SV × List (Nat × Option SBox))
  | _, [], bx => some ([], bx)
  | j, c :: cs, bx => match findR rows j with
    | some (R, e, k, t) => (match c.as (.sl t), putCells rows (j + 1) cs bx with
      | some xs, some (vs, bx) => some (.row R :: vs, (R, some (.rw e k t xs [])) :: bx)
      | _, _ => none)
    | none => (match putCells rows (j + 1) cs bx with
      | some (vs, bx) => some (.d c :: vs, bx)
      | none => none)
def putM : (m : Mod) → m.den → SS → Option SS
  | .leaf i t, x, s => some ⟨(i, .d (enc1 t x)) :: s.sl, s.bx, s.pr, s.ro, s.oc⟩
  | .agg i n, x, s => some ⟨(i, .ag (mapD (stC n x))) :: s.sl, s.bx, s.pr, s.ro, s.oc⟩
  | .row i R e k t, xs, s => some ⟨(i, .row R) :: s.sl, (R, some (.rw e k t xs [])) :: s.bx, s.pr, s.ro, s.oc⟩
  | .box b ty n rows, x, s => match putCells rows 0 (stC n x) s.bx with
    | some (vs, bx) => some ⟨s.sl, (b, some (.st ty vs)) :: bx, s.pr, s.ro, s.oc⟩
    | none => none
def putMs : (l : List Mod) → modsT l → SS → Option SS
  | [], _, s => some s
  | [m], x, s => putM m x s
  | m :: m' :: l, x, s => match putMs (m' :: l) x.2 s with | some s => putM m x.1 s | none => none
/-- The boxes that are written: theirs. -/
def modBoxes : List Mod → List Nat
  | [] => []
  | .row _ R _ _ _ :: l => R :: modBoxes l
  | .box b _ _ rows :: l => b :: (rows.map (·.2.1) ++ modBoxes l)
  | _ :: l => modBoxes l
def isRow (R : Nat) : SV → Bool
  | .row R' => Nat.beq R' R
  | _ => false
/-- May these turn: slots are written, boxes may be. -/
def modsOk (wr : List Nat) (s : SS) : List Mod → Bool
  | [] => true
  | .leaf i _ :: l => (match memN wr i with | true => modsOk wr s l | false => false)
  | .agg i _ :: l => (match memN wr i with | true => modsOk wr s l | false => false)
  | .row i R _ _ _ :: l => (match memN s.pr R, memN wr i || isRow R (lkV s.sl i) with | false, true => modsOk wr s l | _, _ => false)
  | .box b _ _ rows :: l => (match memN s.pr b, rows.all fun r => !(memN s.pr r.2.1) with | false, true => modsOk wr s l | _, _ => false)
/-- Each struct's box is kept somehow. -/
def keptAll (mb sc : List Nat) : List (Nat × Option SBox) → List Nat → Bool
  | [], _ => true
  | (t, b) :: l, seen => match memN seen t with
    | true => keptAll mb sc l seen
    | false => match b with
      | some (.st _ cs) => (match memN mb t || (memN sc t || norows cs) with | true => keptAll mb sc l (t :: seen) | false => false)
      | _ => keptAll mb sc l (t :: seen)
def disjN : List Nat → List Nat → Bool
  | [], _ => true
  | a :: l, m => match memN m a with | true => false | false => disjN l m
mutual
def modChk (sc wr : List Nat) (ms : List Mod) (pr : List Nat) (s : SS) : Bool := modsOk wr s ms && (disjN sc pr && (disjN sc (modBoxes ms) && keptAll (modBoxes ms) sc s.bx []))
/-- Does all of it lie in what is not written (its rows), and is it kept (what it points to)? -/
def safe (pr kb : List Nat) : SV → Bool
  | .row t => memN pr t
  | .re _ _ _ => false
  | .ptr t _ => memN kb t
  | .ag cs => safes pr kb cs
  | .tup cs => safes pr kb cs
  | _ => true
def safes (pr kb : List Nat) : List SV → Bool
  | [] => true
  | c :: cs => match safe pr kb c with | true => safes pr kb cs | false => false
end
/-- Slots that are kept as they are: not written, safe. -/
def keepSl (wr pr kb : List Nat) : List (Nat × SV) → List Nat → List (Nat × SV)
  | [], _ => []
  | (i, v) :: l, seen => match memN seen i with
    | true => keepSl wr pr kb l seen
    | false => match memN wr i with
      | true => keepSl wr pr kb l (i :: seen)
      | false => match safe pr kb v with
        | true => (i, v) :: keepSl wr pr kb l (i :: seen)
        | false => keepSl wr pr kb l (i :: seen)
def plainBox : SBox → Bool
  | .st _ cs => norows cs
  | .rw .. => true
def prBoxes (mb : List Nat) : List (Nat × Option SBox) → List Nat → List Nat
  | [], _ => []
  | (t, b) :: l, seen => match memN seen t with
    | true => prBoxes mb l seen
    | false => match b with
      | none => prBoxes mb l (t :: seen)
      | some b => match memN mb t, plainBox b with
        | false, true => t :: prBoxes mb l (t :: seen)
        | _, _ => prBoxes mb l (t :: seen)
def unpinB : Option SBox → Option SBox
  | some (.rw e k t xs _) => some (.rw e k t xs [])
  | b => b
def keepBx (pr : List Nat) : List (Nat × Option SBox) → List Nat → List (Nat × Option SBox)
  | [], _ => []
  | (t, b) :: l, seen => match memN seen t with
    | true => keepBx pr l seen
    | false => match memN pr t with
      | true => (t, unpinB b) :: keepBx pr l (t :: seen)
      | false => keepBx pr l (t :: seen)
/-- What is left of a state where only these may turn. -/
def junks : List SV → List SV
  | [] => []
  | _ :: l => .junk :: junks l
/-- Boxes of results that are there, of which nothing is known. -/
def scLive (bx : List (Nat × Option SBox)) : List Nat → List Nat
  | [] => []
  | b :: l => match lkB bx b with
    | some (.st _ _) => b :: scLive bx l
    | _ => scLive bx l
def scBx (bx : List (Nat × Option SBox)) : List Nat → List (Nat × Option SBox) → List (Nat × Option SBox)
  | [], r => r
  | b :: l, r => match lkB bx b with
    | some (.st ty cs) => (b, some (.st ty (junks cs))) :: scBx bx l r
    | _ => scBx bx l r
def baseS (sc wr : List Nat) (ms : List Mod) (s : SS) : SS :=
  let pr := prBoxes (modBoxes ms ++ sc) s.bx []
  ⟨keepSl wr pr (modBoxes ms ++ (scLive s.bx sc ++ pr)) s.sl [], scBx s.bx sc (keepBx pr s.bx []), pr, s.ro, []⟩

/-! ### What is frozen where ways meet, nil that becomes a row -/
def rowsIn (but : List Nat) : List SV → List Nat
  | [] => []
  | .row t :: l => match memN but t with | true => rowsIn but l | false => t :: rowsIn but l
  | _ :: l => rowsIn but l
def needR (s : SS) : List Mod → List Nat
  | [] => []
  | .leaf i _ :: l => rowsIn [] [lkV s.sl i] ++ needR s l
  | .agg i _ :: l => (match lkV s.sl i with | .ag cs => rowsIn [] cs | _ => []) ++ needR s l
  | .row .. :: l => needR s l
  | .box b _ _ rows :: l => (match lkB s.bx b with | some (.st _ cs) => rowsIn (rows.map (·.2.1)) cs | _ => []) ++ needR s l
def clr (s : SS) : SS := ⟨s.sl, s.bx, s.pr, s.ro, []⟩
def nilCells (s : SS) : List (Nat × Nat × Nat × Nat × Ty) → List SV → List (Nat × Option SBox) → Option (List SV × List (Nat × Option SBox))
  | [], cs, bx => some (cs, bx)
  | (j, R, e, k, t) :: l, cs, bx => match cs[j]? with
    | some (.d .nl) => (match lkB bx R, decide (0 < k), memN s.pr R with
      | none, true, false => nilCells s l (cs.set j (.row R)) ((R, some (.rw e k t [] [])) :: bx)
      | _, _, _ => none)
    | _ => nilCells s l cs bx
def nilM (wr : List Nat) : List Mod → SS → Option SS
  | [], s => some s
  | .row i R e k t :: l, s => match lkV s.sl i with
    | .d .nl => (match Nat.beq i R, lkB s.bx i, decide (0 < k), memN wr i, memN s.pr i with
      | true, none, true, true, false => nilM wr l ⟨(i, .row i) :: s.sl, (i, some (.rw e k t [] [])) :: s.bx, s.pr, s.ro, s.oc⟩
      | _, _, _, _, _ => none)
    | _ => nilM wr l s
  | .box b _ _ [] :: l, s => nilM wr l s
  | .box b _ _ rows :: l, s => match lkB s.bx b with
    | some (.st ty cs) => (match memN s.pr b, nilCells s rows cs s.bx with
      | false, some (cs, bx) => nilM wr l ⟨s.sl, (b, some (.st ty cs)) :: bx, s.pr, s.ro, s.oc⟩
      | _, _ => none)
    | _ => none
  | _ :: l, s => nilM wr l s
def enterM (wr : List Nat) (ms : List Mod) (s : SS) : Option SS := match nilM wr ms s with
  | some s => frzAll (needR s ms) s
  | none => none
def packF (ms : List Mod) (s : SS) : Option (modsT ms) := match frzAll (needR s ms) s with
  | some s => packM s ms
  | none => none

/-! ### The code -/
inductive Hint where
  | n
  | s (a b : Hint)
  | lp (ms : List Mod) (id : Nat) (ret : Bool) (b : Hint)
  | j (ms : List Mod) (h : Hint)
def Hint.l : Hint → Hint
  | .s a _ => a
  | .j _ (.s a _) => a
  | _ => .n
def Hint.r : Hint → Hint
  | .s _ b => b
  | .j _ (.s _ b) => b
  | _ => .n
structure Cx where
  P : Program
  T : List (Nat × Ent)
  n : Nat
  rs : List PT
  vars : List ResultVar
  fz : List (Nat × List Nat)
  sc : List Nat
def lkF : List (Nat × List Nat) → Nat → List Nat
  | [], _ => []
  | (j, v) :: l, i => match Nat.beq i j with | true => v | false => lkF l i
def wrC : Code → List Nat
  | .region _ ops _ => dstsOf ops.toList
  | .seq a b => wrC a ++ wrC b
  | .cond (.tmp i) a b => i :: (wrC a ++ wrC b)
  | .cond _ a b => wrC a ++ wrC b
  | .block _ c => wrC c
  | .loop c => wrC c
  | _ => []
def resX (P : Program) (s : SS) : List ResultVar → Option (List SV)
  | [] => some []
  | .tmp t :: l => match resX P s l with | some vs => some (lkV s.sl t :: vs) | none => none
  | .cell t ty :: l => match loadX P s ty (lkV s.sl t), resX P s l with | some v, some vs => some (v :: vs) | _, _ => none
def kretX (C : Cx) (s : SS) : Option (densR C.rs) := match resX C.P (clr s) C.vars with
  | some vs => decRs (clr s) C.rs vs
  | none => none
/-- A store yields nothing. -/
def stOk : List Oper → Bool
  | [] => true
  | o :: l => match o.op, o.dst with | .store .., some _ => false | _, _ => stOk l
/-- How many operations come ahead of those that come last in every order (asked only where a literal and a call are there). -/
def hasLit : List Oper → Bool
  | [] => false
  | o :: l => match o.op with | .buildSlice .. => true | _ => hasLit l
def hasCall : List Oper → Bool
  | [] => false
  | o :: l => match callOf o with | some _ => true | none => hasCall l
def tailAt (ops : Array Oper) : Nat → Nat
  | 0 => 0
  | n + 1 => match (List.range n).all fun k => hangs ops 4 n k with | true => tailAt ops n | false => n + 1
def tailOf (ops : Array Oper) : Nat := match hasLit ops.toList, hasCall ops.toList with
  | true, true => tailAt ops ops.toList.length
  | _, _ => ops.toList.length
def regX (C : Cx) (id : Nat) (ops : Array Oper) (draw : Bool) (s : SS) {ρ : Type} (k : SS → Option ρ) : Option ρ :=
  match frzAll (lkF C.fz id) s with
  | none => none
  | some s0 => let s : SS := ⟨s0.sl, s0.bx, s0.pr, s0.ro, []⟩; match draw with
    | false => chk (stOk ops.toList && dstsB C.n ops.toList) (runX true C.P C.T ops 1000 [] ops.toList s k)
    | true => chk (stOk ops.toList && clsOkX s (clsX s ops.toList)) (chk (drawB (clsX s ops.toList) C.n ops) (match Nat.beq (tailOf ops) ops.toList.length with
      | true => runX false C.P C.T ops 1000 [] ops.toList s k
      | false => chk (tailB (tailOf ops) ops && decide (tailOf ops ≤ ops.toList.length)) (runX false C.P C.T ops 1000 [] (ops.toList.take (tailOf ops)) s fun s => runX true C.P C.T ops 1000 [] (ops.toList.drop (tailOf ops)) s k)))
/-- Where ways meet. -/
def withJ (C : Cx) (wr : List Nat) (h : Hint) (body : (ρ : Type) → SS → (Exit → SS → Option ρ) → (densR C.rs → Option ρ) → Option ρ) (ρ : Type) (s : SS) (k : Exit → SS → Option ρ) (kr : densR C.rs → Option ρ) : Option ρ :=
  match h with
  | .j ms _ => match nilM wr ms (clr s) with
    | none => none
    | some s1 => chk (modChk C.sc wr ms s.pr s1) (Option.bind (body (modsT ms) ⟨s1.sl, s1.bx, (baseS C.sc wr ms s1).pr, s1.ro, s1.oc⟩ (fun e s' => match e with | .normal => packF ms s' | _ => none) (fun _ => none)) fun st =>
      match putMs ms st (baseS C.sc wr ms s1) with
      | some s2 => k .normal ⟨s2.sl, s2.bx, s.pr, s.ro, s.oc⟩
      | none => none)
  | _ => body ρ s k kr
def exec (C : Cx) : Code → Hint → (ρ : Type) → SS → (Exit → SS → Option ρ) → (densR C.rs → Option ρ) → Option ρ
  | .skip, _, _, s, k, _ => k .normal s
  | .label _, _, _, s, k, _ => k .normal s
  | .exit id, _, _, s, k, _ => k (.exit id) s
  | .ret, _, _, s, _, kr => Option.bind (kretX C s) kr
  | .region id ops draw, h, ρ, s, k, kr => withJ C (dstsOf ops.toList) h (fun _ s k _ => regX C id ops draw s fun s => k .normal s) ρ s k kr
  | .seq a b, h, ρ, s, k, kr => withJ C (wrC a ++ wrC b) h (fun ρ s k kr => exec C a h.l ρ s (fun e s' => match e with | .normal => exec C b h.r ρ s' k kr | e => k e s') kr) ρ s k kr
  | .cond c a b, h, ρ, s, k, kr => withJ C (wrC (.cond c a b)) h (fun ρ s k kr => match evX s c with
      | .d (.bool t) => if t = true then exec C a h.l ρ (known s c true) k kr else exec C b h.r ρ (known s c false) k kr
      | _ => none) ρ s k kr
  | .block id c, h, ρ, s, k, kr => withJ C (wrC c) h (fun ρ s k kr => exec C c h.l ρ s (fun e s' => match e with | .exit id' => (match Nat.beq id' id with | true => k .normal s' | false => k (.exit id') s') | e => k e s') kr) ρ s k kr
  | .loop c, .lp ms id ret hb, _, s, k, kr => match enterM (wrC c) ms (clr s) with
    | none => none
    | some s0 => chk (modChk C.sc (wrC c) ms s.pr s0) (match packM s0 ms with
      | none => none
      | some st0 => match ret with
        | false => Option.bind (loopO (fun st => match putMs ms st (baseS C.sc (wrC c) ms s0) with
            | none => none
            | some sh => exec C c hb (modsT ms ⊕ modsT ms) sh (fun e s' => match e with
              | .normal => Option.bind (packF ms s') fun st' => some (.inl st')
              | .exit id' => (match Nat.beq id' id with | true => Option.bind (packF ms s') fun st' => some (.inr st') | false => none)
              | _ => none) (fun _ => none)) rounds st0) fun st => match putMs ms st (baseS C.sc (wrC c) ms s0) with
            | some s2 => k (.exit id) ⟨s2.sl, s2.bx, s.pr, s.ro, s.oc⟩
            | none => none
        | true => Option.bind (loopO (fun st => match putMs ms st (baseS C.sc (wrC c) ms s0) with
            | none => none
            | some sh => exec C c hb (modsT ms ⊕ (modsT ms ⊕ densR C.rs)) sh (fun e s' => match e with
              | .normal => Option.bind (packF ms s') fun st' => some (.inl st')
              | .exit id' => (match Nat.beq id' id with | true => Option.bind (packF ms s') fun st' => some (.inr (.inl st')) | false => none)
              | _ => none) (fun r => some (.inr (.inr r)))) rounds st0) fun o => match o with
            | .inr r => kr r
            | .inl st => match putMs ms st (baseS C.sc (wrC c) ms s0) with
              | some s2 => k (.exit id) ⟨s2.sl, s2.bx, s.pr, s.ro, s.oc⟩
              | none => none)
  | _, _, _, _, _, _ => none
def argX : Nat → List SV → List (Nat × SV)
  | _, [] => []
  | i, v :: vs => (i, v) :: argX (i + 1) vs
/-- The function that a body is. -/
def runF (C : Cx) (c : Code) (h : Hint) (ps : List PT) (x : dens ps) : Option (densR C.rs) :=
  exec C c h (densR C.rs) ⟨argX 0 (encAs ps x), [], [], false, []⟩ (fun e s => match e with | .normal => kretX C s | _ => none) (fun r => some r)
end Go.Proofs.Ytcphpbhngnnpmaa

/- The typed executor: what typed states stand for. -/
namespace Go.Proofs.Ytcphpbhngnnpmaa
open Go.RowKit

/-! ### Small facts -/
theorem chk_some {ρ : Type} {b : Bool} {k : Option ρ} {r : ρ} (h : chk b k = some r) : b = true ∧ k = some r := by
  cases b
  · cases h
  · exact ⟨rfl, h⟩
theorem lkV_cons (j : Nat) (v : SV) (l : List (Nat × SV)) (i : Nat) : lkV ((j, v) :: l) i = if i = j then v else lkV l i := by
  simp only [lkV]
  by_cases h : i = j
  · subst h; simp
  · have : Nat.beq i j = false := by rw [← Bool.not_eq_true, Nat.beq_eq]; exact h
    rw [this, if_neg h]
theorem lkB_cons (j : Nat) (v : Option SBox) (l : List (Nat × Option SBox)) (i : Nat) : lkB ((j, v) :: l) i = if i = j then v else lkB l i := by
  simp only [lkB]
  by_cases h : i = j
  · subst h; simp
  · have : Nat.beq i j = false := by rw [← Bool.not_eq_true, Nat.beq_eq]; exact h
    rw [this, if_neg h]
theorem lkP_cons (j : Nat) (v : Pin) (l : List (Nat × Pin)) (i : Nat) : lkP ((j, v) :: l) i = if i = j then some v else lkP l i := by
  simp only [lkP]
  by_cases h : i = j
  · subst h; simp
  · have : Nat.beq i j = false := by rw [← Bool.not_eq_true, Nat.beq_eq]; exact h
    rw [this, if_neg h]
theorem beq_spec (a b : Nat) : Nat.beq a b = decide (a = b) := by
  by_cases h : a = b
  · subst h; simp
  · have : Nat.beq a b = false := by rw [← Bool.not_eq_true, Nat.beq_eq]; exact h
    simp [this, h]
theorem lkV_upd (l : List (Nat × SV)) (dst : Option Nat) (v : SV) (i : Nat) : lkV (updS l dst v) i = if dst = some i then v else lkV l i := by
  cases dst with
  | none => simp [updS]
  | some d =>
    simp only [updS, lkV_cons, Option.some.injEq]
    by_cases h : i = d
    · subst h; simp
    · rw [if_neg h, if_neg (Ne.symm h)]
theorem mapD_eq : ∀ cs : List SD, mapD cs = cs.map .d
  | [] => rfl
  | c :: cs => by simp [mapD, mapD_eq cs]
theorem encE_len : ∀ (t : Ty) (x : t.den), (encE t x).length = tyN t
  | .int _, _ => rfl
  | .bool, _ => rfl
  | .str, _ => rfl
  | .sl _, _ => rfl
  | .st i, x => stD_len i x
theorem encS_ok : ∀ (t : Ty) (x : t.den), (encS t x).map SD.toD = encE t x
  | .int _, _ => rfl
  | .bool, _ => rfl
  | .str, _ => rfl
  | .sl _, _ => rfl
  | .st i, x => stC_ok i x
theorem encS_nl : ∀ (t : Ty) (x : t.den), ∀ c ∈ encS t x, c ≠ .nl
  | .int _, _, c, h => by simp [encS] at h; subst h; exact fun e => by cases e
  | .bool, _, c, h => by simp [encS] at h; subst h; exact fun e => by cases e
  | .str, _, c, h => by simp [encS] at h; subst h; exact fun e => by cases e
  | .sl _, _, c, h => by simp [encS] at h; subst h; exact fun e => by cases e
  | .st i, x, c, h => stC_nl i x c h
theorem noneN {α : Type} {x : α} {Q : Prop} (h : (none : Option α) = some x) : Q := by cases h
theorem decS_ok : ∀ {t : Ty} {cs : List SD} {x : t.den}, decS t cs = some x → cs.map SD.toD = encE t x
  | .st i, cs, x, h => stK_ok h
  | .int k, [], x, h => noneN (x := x) h
  | .int k, [c], x, h => (SD.as_ok (t := (.int k)) h).symm
  | .int k, _ :: _ :: _, x, h => noneN (x := x) h
  | .bool, [], x, h => noneN (x := x) h
  | .bool, [c], x, h => (SD.as_ok (t := .bool) h).symm
  | .bool, _ :: _ :: _, x, h => noneN (x := x) h
  | .str, [], x, h => noneN (x := x) h
  | .str, [c], x, h => (SD.as_ok (t := .str) h).symm
  | .str, _ :: _ :: _, x, h => noneN (x := x) h
  | .sl t, [], x, h => noneN (x := x) h
  | .sl t, [c], x, h => (SD.as_ok (t := (.sl t)) h).symm
  | .sl t, _ :: _ :: _, x, h => noneN (x := x) h

/-! ### Data -/
def DSim : SD → D → Prop
  | .nl, y => y = .v (.slice none 0 0)
  | c, y => nrm y = c.toD
theorem DSim.nrm {c : SD} {y : D} (h : DSim c y) : nrm y = c.toD := by
  cases c <;> first | exact h | (cases h; rfl)
theorem DSim.of {c : SD} (hc : c ≠ .nl) : DSim c c.toD := by
  cases c <;> first | rfl | exact absurd rfl hc
theorem nrm_v {y : D} {x : Value} (h : nrm y = .v x) : y = .v x := by
  unfold Go.Proofs.Ytcphpbhngnnpmaa.nrm at h
  split at h
  · cases h
  · exact h
theorem nrm_sl {y : D} {es : List (List D)} (h : nrm y = .sl es) : y = .sl es ∨ (es = [] ∧ y = .v (.slice none 0 0)) := by
  unfold Go.Proofs.Ytcphpbhngnnpmaa.nrm at h
  split at h
  · injection h with h; exact .inr ⟨h.symm, rfl⟩
  · exact .inl h
/-- A typed value stands for a value of the pure machine. -/
inductive VSim (B : List (Nat × Option SBox)) : SV → PV → Prop
  | junk (q : PV) : VSim B .junk q
  | d (c : SD) (y : D) (h : DSim c y) : VSim B (.d c) (.d y)
  | ag (cs : List SV) (qs : List PV) (hl : cs.length = qs.length) (hr : ∀ (j : Nat) c q, cs[j]? = some c → qs[j]? = some q → VSim B c q) : VSim B (.ag cs) (.ag qs)
  | tup (cs : List SV) (qs : List PV) (hl : cs.length = qs.length) (hr : ∀ (j : Nat) c q, cs[j]? = some c → qs[j]? = some q → VSim B c q) : VSim B (.tup cs) (.tup qs)
  | ptr (t o : Nat) (ty : TypeId) (cs : List SV) (hb : lkB B t = some (.st ty cs)) : VSim B (.ptr t o) (.ptr t o)
  | row (t n e k : Nat) (ty : Ty) (xs : List ty.den) (pins : List (Nat × Pin)) (hb : lkB B t = some (.rw e k ty xs pins)) (hn : xs.length = n) : VSim B (.row t) (.row t n)
  | re (t p o n i e k : Nat) (ty : Ty) (xs : List ty.den) (pins : List (Nat × Pin)) (pin : Pin) (hb : lkB B t = some (.rw e k ty xs pins)) (hn : xs.length = n) (hp : lkP pins p = some pin) (hi : i = pin.i.toNat) : VSim B (.re t p o) (.re t n i o)
  | fe (cs : List SD) (ds : List D) (h : ds = cs.map SD.toD) (hn : ∀ c ∈ cs, c ≠ .nl) : VSim B (.fe cs) (.fe ds)
structure CSim (B : List (Nat × Option SBox)) (cs : List SV) (qs : List PV) : Prop where
  len : cs.length = qs.length
  rep : ∀ (j : Nat) c q, cs[j]? = some c → qs[j]? = some q → VSim B c q
def PinsOk (ty : Ty) (xs : List ty.den) (pins : List (Nat × Pin)) : Prop := ∀ p pin, lkP pins p = some pin → pin.i.toNat < xs.length ∧ ∀ cs, pin.cs = some cs → ∃ x, xs[pin.i.toNat]? = some x ∧ cs = encS ty x
def BSim (B : List (Nat × Option SBox)) (oc : Bool) : Option SBox → Option Box → Prop
  | none, q => oc = false → q = none
  | some (.st ty cs), q => ∃ qs, q = some (.st ty qs) ∧ CSim B cs qs
  | some (.rw e k ty xs pins), q => q = some (.rw e k (xs.map (encE ty))) ∧ PinsOk ty xs pins
structure Sim (s : SS) (p : PS) : Prop where
  sl : ∀ i, VSim s.bx (lkV s.sl i) (p.t i)
  bx : ∀ t, BSim s.bx (memN s.oc t) (lkB s.bx t) (p.b t)
/-- Rows are as long, and pins where they were; structs are there. -/
structure BLe (B B' : List (Nat × Option SBox)) : Prop where
  rw : ∀ t e k ty xs pins, lkB B t = some (.rw e k ty xs pins) → ∃ e' k' ty' xs' pins', lkB B' t = some (.rw e' k' ty' xs' pins') ∧ xs'.length = xs.length ∧ ∀ p pin, lkP pins p = some pin → ∃ pin', lkP pins' p = some pin' ∧ pin'.i = pin.i
  st : ∀ t ty cs, lkB B t = some (.st ty cs) → ∃ ty' cs', lkB B' t = some (.st ty' cs')
theorem BLe.refl (B : List (Nat × Option SBox)) : BLe B B := ⟨fun _ e k ty xs pins h => ⟨e, k, ty, xs, pins, h, rfl, fun _ pin hp => ⟨pin, hp, rfl⟩⟩, fun _ ty cs h => ⟨ty, cs, h⟩⟩
theorem VSim.mono {B B' : List (Nat × Option SBox)} {v : SV} {q : PV} (h : VSim B v q) (hB : BLe B B') : VSim B' v q := by
  induction h with
  | junk q => exact .junk q
  | d c y h => exact .d c y h
  | ag cs qs hl hr ih => exact .ag cs qs hl ih
  | tup cs qs hl hr ih => exact .tup cs qs hl ih
  | ptr t o ty cs hb => obtain ⟨ty', cs', h1⟩ := hB.st t ty cs hb; exact .ptr t o ty' cs' h1
  | row t n e k ty xs pins hb hn =>
    obtain ⟨e', k', ty', xs', pins', h1, h2, h3⟩ := hB.rw t e k ty xs pins hb
    exact .row t n e' k' ty' xs' pins' h1 (h2.trans hn)
  | re t p o n i e k ty xs pins pin hb hn hp hi =>
    obtain ⟨e', k', ty', xs', pins', h1, h2, h3⟩ := hB.rw t e k ty xs pins hb
    obtain ⟨pin', h4, h5⟩ := h3 p pin hp
    exact .re t p o n i e' k' ty' xs' pins' pin' h1 (h2.trans hn) h4 (by rw [h5]; exact hi)
  | fe cs ds h hn => exact .fe cs ds h hn
theorem CSim.mono {B B' : List (Nat × Option SBox)} {cs : List SV} {qs : List PV} (h : CSim B cs qs) (hB : BLe B B') : CSim B' cs qs := ⟨h.len, fun j c q h1 h2 => (h.rep j c q h1 h2).mono hB⟩
theorem BSim.mono {B B' : List (Nat × Option SBox)} {oc : Bool} {b : Option SBox} {q : Option Box} (h : BSim B oc b q) (hB : BLe B B') : BSim B' oc b q := by
  cases b with
  | none => exact h
  | some b => cases b with
    | st ty cs => obtain ⟨qs, h1, h2⟩ := h; exact ⟨qs, h1, h2.mono hB⟩
    | rw e k ty xs pins => exact h

/-! ### Lists of cells -/
variable {B : List (Nat × Option SBox)}
theorem CSim.nil : CSim B [] [] := ⟨rfl, fun j c q h => by simp at h⟩
theorem CSim.cons {c : SV} {q : PV} {cs : List SV} {qs : List PV} (h : VSim B c q) (hs : CSim B cs qs) : CSim B (c :: cs) (q :: qs) :=
  ⟨by simp [hs.len], fun j c' q' h1 h2 => by
    cases j with
    | zero => simp at h1 h2; subst h1 h2; exact h
    | succ j => simp at h1 h2; exact hs.rep j _ _ h1 h2⟩
theorem CSim.head {c : SV} {q : PV} {cs : List SV} {qs : List PV} (h : CSim B (c :: cs) (q :: qs)) : VSim B c q := h.rep 0 c q rfl rfl
theorem CSim.tail {c : SV} {q : PV} {cs : List SV} {qs : List PV} (h : CSim B (c :: cs) (q :: qs)) : CSim B cs qs :=
  ⟨by have := h.len; simpa using this, fun j c' q' h1 h2 => h.rep (j + 1) c' q' (by simpa using h1) (by simpa using h2)⟩
theorem CSim.cases {cs : List SV} {qs : List PV} (h : CSim B cs qs) : (cs = [] ∧ qs = []) ∨ ∃ c q cs' qs', cs = c :: cs' ∧ qs = q :: qs' ∧ VSim B c q ∧ CSim B cs' qs' := by
  cases cs with
  | nil => cases qs with
    | nil => exact .inl ⟨rfl, rfl⟩
    | cons q qs => have := h.len; simp at this
  | cons c cs => cases qs with
    | nil => have := h.len; simp at this
    | cons q qs => exact .inr ⟨c, q, cs, qs, rfl, rfl, h.head, h.tail⟩
theorem CSim.take {cs : List SV} {qs : List PV} (h : CSim B cs qs) (n : Nat) : CSim B (cs.take n) (qs.take n) :=
  ⟨by simp [h.len], fun j c q h1 h2 => by
    rw [List.getElem?_take] at h1 h2
    split at h1
    · rename_i hj; rw [if_pos hj] at h2; exact h.rep j c q h1 h2
    · cases h1⟩
theorem CSim.drop {cs : List SV} {qs : List PV} (h : CSim B cs qs) (n : Nat) : CSim B (cs.drop n) (qs.drop n) :=
  ⟨by simp [h.len], fun j c q h1 h2 => by
    rw [List.getElem?_drop] at h1 h2
    exact h.rep _ c q h1 h2⟩
theorem CSim.append {cs ds : List SV} {qs ws : List PV} (h : CSim B cs qs) (h' : CSim B ds ws) : CSim B (cs ++ ds) (qs ++ ws) :=
  ⟨by simp [h.len, h'.len], fun j c q h1 h2 => by
    rw [List.getElem?_append] at h1 h2
    rw [h.len] at h1
    split at h1
    · rename_i hj; rw [if_pos hj] at h2; exact h.rep j c q h1 h2
    · rename_i hj; rw [if_neg hj] at h2; exact h'.rep _ c q h1 h2⟩
theorem spliceX_eq {α : Type} : ∀ (cs : List α) (o : Nat) (ns : List α), o + ns.length ≤ cs.length → spliceX cs o ns = splice cs o ns
  | [], 0, [], _ => rfl
  | [], 0, n :: ns, h => by simp at h
  | [], o + 1, ns, h => by simp at h
  | c :: cs, 0, [], _ => by simp [spliceX, splice]
  | c :: cs, 0, n :: ns, h => by
    simp only [spliceX]
    rw [spliceX_eq cs 0 ns (by simp at h ⊢; omega)]
    simp [splice]
  | c :: cs, o + 1, ns, h => by
    simp only [spliceX]
    rw [spliceX_eq cs o ns (by simp at h ⊢; omega)]
    unfold splice
    rw [show o + 1 + ns.length = (o + ns.length) + 1 by omega]
    simp
theorem CSim.splice {cs ns : List SV} {qs ws : List PV} (h : CSim B cs qs) (h' : CSim B ns ws) (o : Nat) : CSim B (Go.Proofs.Ytcphpbhngnnpmaa.splice cs o ns) (Go.Proofs.Ytcphpbhngnnpmaa.splice qs o ws) := by
  unfold Go.Proofs.Ytcphpbhngnnpmaa.splice
  rw [h'.len]
  exact ((h.take o).append h').append (h.drop _)
end Go.Proofs.Ytcphpbhngnnpmaa
