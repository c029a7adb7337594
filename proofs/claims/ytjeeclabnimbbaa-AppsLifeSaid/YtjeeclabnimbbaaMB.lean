/- Texts PmJ, PmK, PmL, PmM, PmN, PmO, PmT, PmS, PmX, GeA, GeS, GeL, Va, Vs, in one. -/
import Derived.Test.YtjeeclabnimbbaaMA
import Derived.Deep.LoopGhost
import Derived.Orders
import Derived.IntWalk
/- The pure machine: an operation carried out; calls. -/
namespace Go.Proofs.Ytjeeclabnimbbaa
open Go.RowKit

section
variable {P : Program} {ρ ρ' : Nat → Value} {b b' : Nat → Option Box} {w w' : World} {w0 : WM} {F F' F0 : Nat → Prop}

theorem list_one {α : Type} {l : Array α} {x : α} (h : l.toList = [x]) : l = #[x] := by apply Array.ext'; simpa using h
theorem list_two {α : Type} {l : Array α} {x y : α} (h : l.toList = [x, y]) : l = #[x, y] := by apply Array.ext'; simpa using h
theorem map_one {α β : Type} {f : α → β} {l : List α} {y : β} (h : l.map f = [y]) : ∃ x, l = [x] ∧ f x = y := by
  cases l with
  | nil => cases h
  | cons a l => cases l with
    | nil => exact ⟨a, rfl, by injection h⟩
    | cons _ _ => simp at h
theorem map_two {α β : Type} {f : α → β} {l : List α} {y z : β} (h : l.map f = [y, z]) : ∃ x x', l = [x, x'] ∧ f x = y ∧ f x' = z := by
  cases l with
  | nil => cases h
  | cons a l =>
    simp only [List.map_cons, List.cons.injEq] at h
    obtain ⟨x', h1, h2⟩ := map_one h.2
    exact ⟨a, x', by rw [h1], h.1, h2⟩

theorem opt_rep {s : PS} {a : Act} (hev : ∀ x, PRep ρ s.b w F (a.eval x) (ev s x)) (o : Option Operand) : match o.map a.eval, o.map (ev s) with | some v, some p => PRep ρ s.b w F v p | none, none => True | _, _ => False := by
  cases o with
  | none => trivial
  | some x => exact hev x
theorem parts_one {s : PS} {a : Act} (hev : ∀ x, PRep ρ s.b w F (a.eval x) (ev s x)) (xs : Array Operand) : Reps ρ s.b w F (xs.map a.eval).toList (xs.toList.map (ev s)) :=
  ⟨by simp, fun j x c h1 h2 => by
    rw [Array.toList_map, List.getElem?_map] at h1
    rw [List.getElem?_map] at h2
    cases hj : xs.toList[j]? with
    | none => rw [hj] at h1; cases h1
    | some y =>
      rw [hj] at h1 h2
      injection h1 with h1
      injection h2 with h2
      subst h1 h2
      exact hev y⟩
theorem parts_one' {s : PS} {a : Act} (hev : ∀ x, PRep ρ s.b w F (a.eval x) (ev s x)) {xs : Array Operand} {l : List PV} (h : xs.toList.map (ev s) = l) : Reps ρ s.b w F (xs.map a.eval).toList l := by
  rw [← h]; exact parts_one hev xs
theorem eff_ok {o : Oper} {s : PS} {a : Act} {r : PV} {u : Option (Nat × Box)} (hd : ∀ d, o.dst = some d → d < 1000000) (hi : Inv w0 F0 ρ s.b w F) (hev : ∀ x, PRep ρ s.b w F (a.eval x) (ev s x)) (h : eff P o s = some (r, u)) :
    Out w0 F0 ρ s.b w F ((execOp a.eval o).run P w) r u := by
  have vrun : ∀ (m : Sem Value), ((do pure (.value (← m)) : Sem Next)).run P w = (m.run P w).andThen fun v w => .ok (.value v) w := fun m => by
    rw [Sem.run_bind]; rfl
  unfold eff at h
  unfold execOp
  split at h
  all_goals
    rename_i ho
    simp only [ho]
  · injection h with h
    injection h with e1 e2
    subst e1 e2
    exact Out.pure hi rfl (hev _)
  · injection h with h
    injection h with e1 e2
    subst e1 e2
    exact Out.pure hi rfl (hev _)
  · split at h
    · rename_i t ht
      injection h with h
      injection h with e1 e2
      subst e1 e2
      have hb := asB_spec (hev _) ht
      rw [hb]
      cases t
      · exact Out.pure hi rfl (hev _)
      · exact Out.pure hi rfl (hev _)
    · cases h
  · rw [vrun]; exact Out.got (effAlloc_ok hd hi h)
  · rw [vrun]; exact Out.got (effBox_ok hd hi (hev _) h)
  · rw [Option.map_eq_some_iff] at h
    obtain ⟨r', h1, h2⟩ := h
    injection h2 with e1 e2
    subst e1 e2
    rw [vrun]
    have hp := parts_rep hev (by assumption)
    exact Out.one hi (effBuild_ok hp.1 hp.2 h1)
  · rw [vrun]
    have hp := parts_rep hev (by assumption)
    exact Out.got (effBuildSlice_ok hd hi hp.1 hp.2 h)
  · rw [Option.map_eq_some_iff] at h
    obtain ⟨r', h1, h2⟩ := h
    injection h2 with e1 e2
    subst e1 e2
    rw [vrun]
    exact Out.one hi (effLoad_ok hi (hev _) h1)
  · rw [Option.map_eq_some_iff] at h
    obtain ⟨r', h1, h2⟩ := h
    injection h2 with e1 e2
    subst e1 e2
    obtain ⟨w', h3, h4, h5⟩ := effStore_ok hi (hev _) (hev _) h1
    refine ⟨undef, w', ρ, F, .inr ⟨?_, rfl⟩, h4, h5, .junk _⟩
    rw [Sem.run_bind, h3]
    rfl
  · rw [Option.map_eq_some_iff] at h
    obtain ⟨r', h1, h2⟩ := h
    injection h2 with e1 e2
    subst e1 e2
    rw [vrun]
    exact Out.one hi (effBin_ok (hev _) (hev _) h1)
  · rw [Option.map_eq_some_iff] at h
    obtain ⟨r', h1, h2⟩ := h
    injection h2 with e1 e2
    subst e1 e2
    rw [vrun]
    exact Out.one hi (effUn_ok (hev _) h1)
  · rw [Option.map_eq_some_iff] at h
    obtain ⟨r', h1, h2⟩ := h
    injection h2 with e1 e2
    subst e1 e2
    rw [vrun]
    exact Out.one hi (effConvB_ok hi (hev _) h1)
  · rw [Option.map_eq_some_iff] at h
    obtain ⟨r', h1, h2⟩ := h
    injection h2 with e1 e2
    subst e1 e2
    rw [vrun]
    exact Out.one hi (effSlice_ok hi (hev _) (opt_rep hev _) (opt_rep hev _) h1)
  · rw [Option.map_eq_some_iff] at h
    obtain ⟨r', h1, h2⟩ := h
    injection h2 with e1 e2
    subst e1 e2
    rw [vrun]
    exact Out.one hi (effFieldAddr_ok (hev _) h1)
  · rw [Option.map_eq_some_iff] at h
    obtain ⟨r', h1, h2⟩ := h
    injection h2 with e1 e2
    subst e1 e2
    rw [vrun]
    exact Out.one hi (effField_ok (hev _) h1)
  · rw [Option.map_eq_some_iff] at h
    obtain ⟨r', h1, h2⟩ := h
    injection h2 with e1 e2
    subst e1 e2
    rw [vrun]
    exact Out.one hi (effIndexAddr_ok hi (hev _) (hev _) h1)
  · rw [Option.map_eq_some_iff] at h
    obtain ⟨r', h1, h2⟩ := h
    injection h2 with e1 e2
    subst e1 e2
    rw [vrun]
    exact Out.one hi (effExtract_ok (hev _) h1)
  · rw [Option.map_eq_some_iff] at h
    obtain ⟨r', h1, h2⟩ := h
    injection h2 with e1 e2
    subst e1 e2
    rw [vrun]
    exact Out.one hi (effIdx_ok (hev _) (hev _) h1)
  · split at h
    · rename_i c f hf
      simp only [resolve, hf, Sem.run_bind, Sem.run_pure, Result.andThen_ok, invoke, builtin]
      unfold effBuiltin at h
      split at h
      · split at h
        · rename_i x t hx ht
          rw [Option.map_eq_some_iff] at h
          obtain ⟨r', h1, h2⟩ := h
          injection h2 with e1 e2
          subst e1 e2
          obtain ⟨y, hy, rfl⟩ := map_one hx
          have ea := list_one hy
          have et := list_one ht
          rw [ea, et]
          simp only [List.map_toArray, List.map_cons, List.map_nil]
          rw [vrun]
          exact Out.one hi (effLen_ok (hev _) h1)
        · cases h
      · split at h
        · rename_i x y t t' hx ht
          split at h
          · rename_i htt
            subst htt
            obtain ⟨z, z', hz, rfl, rfl⟩ := map_two hx
            have ea := list_two hz
            have et := list_two ht
            rw [ea, et]
            simp only [List.map_toArray, List.map_cons, List.map_nil]
            rw [vrun]
            exact Out.got (effAppend_ok hd hi (hev _) (hev _) h)
          · cases h
        · cases h
      · split at h
        · rename_i x xs hx
          rw [Option.map_eq_some_iff] at h
          obtain ⟨r', h1, h2⟩ := h
          injection h2 with e1 e2
          subst e1 e2
          rw [vrun]
          refine Out.one hi ?_
          have hR := parts_one' hev hx
          unfold Builtin.min_
          revert hR
          generalize (Array.map a.eval _).toList = ll
          intro hR
          cases ll with
          | nil => have := hR.len; simp at this
          | cons v vs => exact effMinL_ok xs vs x v r' (hR.rep 0 v x rfl rfl) ⟨by have := hR.len; simpa using this, fun j u q h3 h4 => hR.rep (j + 1) u q (by simpa using h3) (by simpa using h4)⟩ h1
        · cases h
      · split at h
        · rename_i x xs hx
          rw [Option.map_eq_some_iff] at h
          obtain ⟨r', h1, h2⟩ := h
          injection h2 with e1 e2
          subst e1 e2
          rw [vrun]
          refine Out.one hi ?_
          have hR := parts_one' hev hx
          unfold Builtin.max_
          revert hR
          generalize (Array.map a.eval _).toList = ll
          intro hR
          cases ll with
          | nil => have := hR.len; simp at this
          | cons v vs => exact effMaxL_ok xs vs x v r' (hR.rep 0 v x rfl rfl) ⟨by have := hR.len; simpa using this, fun j u q h3 h4 => hR.rep (j + 1) u q (by simpa using h3) (by simpa using h4)⟩ h1
        · cases h
      · split at h
        · rename_i x y t t' hx ht
          rw [Option.map_eq_some_iff] at h
          obtain ⟨⟨r', u'⟩, h1, h2⟩ := h
          injection h2 with e1 e2
          subst e1 e2
          obtain ⟨z, z', hz, rfl, rfl⟩ := map_two hx
          have ea := list_two hz
          have et := list_two ht
          rw [ea, et]
          simp only [List.map_toArray, List.map_cons, List.map_nil]
          rw [vrun]
          exact Out.got (effCopy_ok hi (hev _) (hev _) h1)
        · cases h
      · cases h
    · cases h
  · injection h with h
    injection h with e1 e2
    subst e1 e2
    rw [vrun]
    rename_i f ps qs
    have h1 := parts_one hev ps
    have h2 := parts_one hev qs
    exact Out.one hi ⟨_, .fn f (ps.map a.eval) (qs.map a.eval) _ _ (by simp) (fun j x c k1 k2 => h1.rep j x c (by simpa using k1) k2) (by simp) (fun j x c k1 k2 => h2.rep j x c (by simpa using k1) k2), rfl⟩
  · rw [vrun]
    exact Out.got (effMake_ok hd hi (hev _) (hev _) h)
  · cases h

/-! ### Calls -/
def bNone : Nat → Option Box := fun _ => none
def ρNone : Nat → Value := fun _ => undef
/-- Called with what reads as these, f answers what reads as r, in new blocks or in those that it was handed. -/
def callable (P : Program) (f : FuncId) : Bool := match P.funcs[f]? with | some fn => fn.body.isSome && !(fn.name == "runtime.NumGoroutine") | none => false
def PC (P : Program) (f : FuncId) (args : List PV) (r : PV) : Prop :=
  callable P f = true ∧ ∀ (w : World) (F : Nat → Prop) (vs : Array Value), (∀ g, F g → g < w.heap.size) → Reps ρNone bNone w F vs.toList args →
    Calls P f vs w fun e w' => ∃ v F', e = .returned v ∧ Ext w w' ∧ (∀ g, F g → F' g) ∧ (∀ g, F' g → g < w'.heap.size) ∧ (∀ g, F' g → F g ∨ w.heap.size ≤ g) ∧ PRep ρNone bNone w' F' v r

mutual
/-- No box is named. -/
def clean : PV → Bool
  | .junk => true
  | .d _ => true
  | .ag cs => cleans cs
  | .tup cs => cleans cs
  | .fe _ => true
  | .fn _ ps qs => cleans ps && cleans qs
  | _ => false
def cleans : List PV → Bool
  | [] => true
  | c :: cs => clean c && cleans cs
end
mutual
/-- What is read, without boxes: rows as the data that they hold. -/
def asData (b : Nat → Option Box) : PV → PV
  | .row t n => match b t with
    | some (.rw _ _ es) => if es.length = n then .d (.sl es) else .junk
    | _ => .junk
  | .ag cs => .ag (asDatas b cs)
  | .tup cs => .tup (asDatas b cs)
  | .ptr _ _ => .junk
  | .re _ _ _ _ => .junk
  | .vw _ _ _ _ => .junk
  | .d x => .d (nrm x)
  | .fn f ps qs => .fn f (asDatas b ps) (asDatas b qs)
  | p => p
def asDatas (b : Nat → Option Box) : List PV → List PV
  | [] => []
  | c :: cs => asData b c :: asDatas b cs
end
mutual
/-- Nothing of it lies in memory. -/
def flat : PV → Bool
  | .junk => true
  | .d (.v _) => true
  | .ag cs => flats cs
  | .tup cs => flats cs
  | _ => false
def flats : List PV → Bool
  | [] => true
  | c :: cs => flat c && flats cs
end
theorem cleans_get : ∀ {cs : List PV} (_ : cleans cs = true) {j : Nat} {c : PV}, cs[j]? = some c → clean c = true
  | [], _, j, c, h => by simp at h
  | d :: cs, h, j, c, hj => by
    simp only [cleans, Bool.and_eq_true] at h
    cases j with
    | zero => simp at hj; subst hj; exact h.1
    | succ j => simp at hj; exact cleans_get h.2 hj
theorem flats_get : ∀ {cs : List PV} (_ : flats cs = true) {j : Nat} {c : PV}, cs[j]? = some c → flat c = true
  | [], _, j, c, h => by simp at h
  | d :: cs, h, j, c, hj => by
    simp only [flats, Bool.and_eq_true] at h
    cases j with
    | zero => simp at hj; subst hj; exact h.1
    | succ j => simp at hj; exact flats_get h.2 hj
theorem asDatas_get (b : Nat → Option Box) : ∀ (cs : List PV) (j : Nat) (c : PV), (asDatas b cs)[j]? = some c → ∃ d, cs[j]? = some d ∧ c = asData b d
  | [], j, c, h => by simp [asDatas] at h
  | d :: cs, j, c, h => by
    simp only [asDatas] at h
    cases j with
    | zero => simp at h; exact ⟨d, rfl, h.symm⟩
    | succ j => simp at h; simpa using asDatas_get b cs j c h
theorem asDatas_len (b : Nat → Option Box) : ∀ (cs : List PV), (asDatas b cs).length = cs.length
  | [] => rfl
  | d :: cs => by simp [asDatas, asDatas_len b cs]

theorem PRep.clean {x : Value} {p : PV} (h : PRep ρ b w F x p) : clean p = true → PRep ρ' b' w F x p := by
  induction h with
  | junk x => exact fun _ => .junk x
  | d x d h => exact fun _ => .d x d h
  | ag xs cs hl h1 hr ih => exact fun hc => .ag xs cs hl h1 (fun j x c h2 h3 => ih j x c h2 h3 (cleans_get (by simpa [Go.Proofs.Ytjeeclabnimbbaa.clean] using hc) h3))
  | tup xs cs hl hr ih => exact fun hc => .tup xs cs hl (fun j x c h2 h3 => ih j x c h2 h3 (cleans_get (by simpa [Go.Proofs.Ytjeeclabnimbbaa.clean] using hc) h3))
  | ptr => exact fun hc => by simp [Go.Proofs.Ytjeeclabnimbbaa.clean] at hc
  | row => exact fun hc => by simp [Go.Proofs.Ytjeeclabnimbbaa.clean] at hc
  | re => exact fun hc => by simp [Go.Proofs.Ytjeeclabnimbbaa.clean] at hc
  | vw => exact fun hc => by simp [Go.Proofs.Ytjeeclabnimbbaa.clean] at hc
  | fe a cs us hF hcell hrep => exact fun _ => .fe a cs us hF hcell hrep
  | fn f xs ys ps qs hl hr hl2 hr2 ih ih2 =>
    intro hc
    simp only [Go.Proofs.Ytjeeclabnimbbaa.clean, Bool.and_eq_true] at hc
    exact .fn f xs ys ps qs hl (fun j x c h2 h3 => ih j x c h2 h3 (cleans_get hc.1 h3)) hl2 (fun j x c h2 h3 => ih2 j x c h2 h3 (cleans_get hc.2 h3))
theorem PRep.flat {x : Value} {p : PV} (h : PRep ρ b w F x p) : flat p = true → PRep ρ' b' w' F' x p := by
  induction h with
  | junk x => exact fun _ => .junk x
  | d x d h =>
    intro hc
    cases h with
    | v x h1 => exact .d x _ (.v x h1)
    | sl => simp [Go.Proofs.Ytjeeclabnimbbaa.flat] at hc
  | ag xs cs hl h1 hr ih => exact fun hc => .ag xs cs hl h1 (fun j x c h2 h3 => ih j x c h2 h3 (flats_get (by simpa [Go.Proofs.Ytjeeclabnimbbaa.flat] using hc) h3))
  | tup xs cs hl hr ih => exact fun hc => .tup xs cs hl (fun j x c h2 h3 => ih j x c h2 h3 (flats_get (by simpa [Go.Proofs.Ytjeeclabnimbbaa.flat] using hc) h3))
  | ptr => exact fun hc => by simp [Go.Proofs.Ytjeeclabnimbbaa.flat] at hc
  | row => exact fun hc => by simp [Go.Proofs.Ytjeeclabnimbbaa.flat] at hc
  | re => exact fun hc => by simp [Go.Proofs.Ytjeeclabnimbbaa.flat] at hc
  | vw => exact fun hc => by simp [Go.Proofs.Ytjeeclabnimbbaa.flat] at hc
  | fe => exact fun hc => by simp [Go.Proofs.Ytjeeclabnimbbaa.flat] at hc
  | fn => exact fun hc => by simp [Go.Proofs.Ytjeeclabnimbbaa.flat] at hc

/-- All that is frozen, and all blocks of boxes. -/
def allF (ρ : Nat → Value) (b : Nat → Option Box) (F : Nat → Prop) : Nat → Prop := fun g => F g ∨ ∃ t B, b t = some B ∧ blk (ρ t) = some g
/-- A row of the call's own, as data. -/
theorem row_data {t n : Nat} {e k : Nat} {es : List (List D)} {x : Value} (hi : Inv w0 F0 ρ b w F) (hb : b t = some (.rw e k es)) (h : PRep ρ b w F x (.row t n)) (hn : es.length = n) : DRep w (allF ρ b F) x (.sl es) := by
  have hF : ∀ g, F g → allF ρ b F g := fun g h => .inl h
  have hr := asSl_reads hi h (show asSl b (.row t n) = some es by simp [asSl, hb, hn])
  obtain ⟨A, c, k', rfl, hc, hm, hk, hA, hcell⟩ := hr
  have hu : ∀ a, A = some a → ∃ us : Nat → Value, ∀ (j : Nat) d, es.flatten[j]? = some d → w.cell? (a.add j) = some (us j) ∧ DRep w F (us j) d := fun a ha => by
    refine ⟨fun j => (w.cell? (a.add j)).getD undef, fun j d hj => ?_⟩
    obtain ⟨u, h1, h2⟩ := hcell a ha j d hj
    simp only [h1, Option.getD_some]
    exact ⟨trivial, h2⟩
  cases A with
  | none =>
    obtain ⟨rfl, rfl⟩ := hA rfl
    exact .sl none 0 0 0 [] (fun _ => undef) rfl (Nat.le_refl _) (by simp [maxLen]) (by simp) (by omega) (fun _ => rfl) (by simp) (by simp)
  | some a =>
    obtain ⟨us, hus⟩ := hu a rfl
    refine .sl (some a) es.length c k' es us rfl hc hm hk (fun h0 => ⟨a, rfl, .inr ⟨t, _, hb, ?_⟩⟩) (fun h => by cases h) (fun a' j d ha' hj => by injection ha' with ha'; subst ha'; exact (hus j d hj).1) (fun j d hj => (hus j d hj).2.mono hF (fun _ _ => rfl))
    cases h with
    | row _ _ _ _ e' k2 es2 hb2 _ _ _ hρ =>
      rw [hb] at hb2
      injection hb2 with hb2
      injection hb2 with e1 e2 e3
      subst e3
      rw [hρ hn]
      rfl
/-- The same of what is clean, without the boxes. -/
theorem PRep.cleanData {x : Value} {p : PV} (h : PRep ρ b w F x p) : Go.Proofs.Ytjeeclabnimbbaa.clean p = true → PRep ρNone bNone w F x (Go.Proofs.Ytjeeclabnimbbaa.asData bNone p) := by
  induction h with
  | junk x => exact fun _ => .junk x
  | d x d h => exact fun _ => .d x _ h.nrm
  | ag xs cs hl h1 hr ih =>
    refine fun hc => .ag xs _ (by rw [asDatas_len]; exact hl) h1 (fun j x c h2 h3 => ?_)
    obtain ⟨d, h4, rfl⟩ := asDatas_get bNone cs j c h3
    exact ih j x d h2 h4 (cleans_get (by simpa [Go.Proofs.Ytjeeclabnimbbaa.clean] using hc) h4)
  | tup xs cs hl hr ih =>
    refine fun hc => .tup xs _ (by rw [asDatas_len]; exact hl) (fun j x c h2 h3 => ?_)
    obtain ⟨d, h4, rfl⟩ := asDatas_get bNone cs j c h3
    exact ih j x d h2 h4 (cleans_get (by simpa [Go.Proofs.Ytjeeclabnimbbaa.clean] using hc) h4)
  | ptr => exact fun hc => by simp [Go.Proofs.Ytjeeclabnimbbaa.clean] at hc
  | row => exact fun hc => by simp [Go.Proofs.Ytjeeclabnimbbaa.clean] at hc
  | re => exact fun hc => by simp [Go.Proofs.Ytjeeclabnimbbaa.clean] at hc
  | vw => exact fun hc => by simp [Go.Proofs.Ytjeeclabnimbbaa.clean] at hc
  | fe a cs us hF hcell hrep => exact fun _ => .fe a cs us hF hcell hrep
  | fn f xs ys ps qs hl hr hl2 hr2 ih ih2 =>
    intro hc
    simp only [Go.Proofs.Ytjeeclabnimbbaa.clean, Bool.and_eq_true] at hc
    refine .fn f xs ys _ _ (by rw [asDatas_len]; exact hl) (fun j x c h2 h3 => ?_) (by rw [asDatas_len]; exact hl2) (fun j x c h2 h3 => ?_)
    · obtain ⟨d, h4, rfl⟩ := asDatas_get bNone ps j c h3
      exact ih j x d h2 h4 (cleans_get hc.1 h4)
    · obtain ⟨d, h4, rfl⟩ := asDatas_get bNone qs j c h3
      exact ih2 j x d h2 h4 (cleans_get hc.2 h4)
theorem PRep.asData {x : Value} {p : PV} (hi : Inv w0 F0 ρ b w F) (h : PRep ρ b w F x p) : PRep ρNone bNone w (allF ρ b F) x (asData b p) := by
  have hF : ∀ g, F g → allF ρ b F g := fun g h => .inl h
  induction h with
  | junk x => exact .junk x
  | d x d h => exact .d x _ (h.nrm.mono hF (fun _ _ => rfl))
  | ag xs cs hl h1 hr ih =>
    refine .ag xs _ (by rw [asDatas_len]; exact hl) h1 (fun j x c h2 h3 => ?_)
    obtain ⟨d, h4, rfl⟩ := asDatas_get b cs j c h3
    exact ih j x d h2 h4
  | tup xs cs hl hr ih =>
    refine .tup xs _ (by rw [asDatas_len]; exact hl) (fun j x c h2 h3 => ?_)
    obtain ⟨d, h4, rfl⟩ := asDatas_get b cs j c h3
    exact ih j x d h2 h4
  | ptr => exact .junk _
  | re => exact .junk _
  | vw => exact .junk _
  | row t n A c e k es hb hn hc hA hρ =>
    simp only [Go.Proofs.Ytjeeclabnimbbaa.asData, hb]
    split
    · rename_i h
      exact .d _ _ (row_data hi hb (.row t n A c e k es hb hn hc hA hρ) h)
    · exact .junk _
  | fe a cs us hF' hcell hrep => exact .fe a cs us (.inl hF') hcell (fun j d h => (hrep j d h).mono hF (fun _ _ => rfl))
  | fn f xs ys ps qs hl hr hl2 hr2 ih ih2 =>
    refine .fn f xs ys _ _ (by rw [asDatas_len]; exact hl) (fun j x c h2 h3 => ?_) (by rw [asDatas_len]; exact hl2) (fun j x c h2 h3 => ?_)
    · obtain ⟨d, h4, rfl⟩ := asDatas_get b ps j c h3
      exact ih j x d h2 h4
    · obtain ⟨d, h4, rfl⟩ := asDatas_get b qs j c h3
      exact ih2 j x d h2 h4
end
end Go.Proofs.Ytjeeclabnimbbaa

/- The pure machine: one operation with its guard; regions in the text's order; the rules of the code. -/
namespace Go.Proofs.Ytjeeclabnimbbaa
open Go.RowKit

def guardB (ops : Array Oper) (o : Oper) (s : PS) : Option Bool :=
  match o.guard with
  | none => some true
  | some (j, want) => match (ops[j]?).bind (·.dst) with
    | some g => match s.t g with
      | .tup [] => some false
      | p => (asB p).map (· == want)
    | none => none
def CallOk (P : Program) (f : FuncId) (b : Nat → Option Box) (args : List PV) (r : PV) : Prop :=
  (cleans args = true ∧ clean r = true ∧ PC P f (asDatas bNone args) r) ∨ (flat r = true ∧ PC P f (asDatas b args) r)
def callOf (o : Oper) : Option (Operand × List Operand) :=
  match o.op with
  | .call c => match c.callee with
    | .value x => some (x, c.args.toList)
    | _ => none
  | _ => none
/-! ### Several boxes at once -/
abbrev BU := List (Nat × Box)
def lkU : BU → Nat → Option Box
  | [], _ => none
  | (j, B) :: l, i => if i = j then some B else lkU l i
def bupdL (b : Nat → Option Box) (u : BU) : Nat → Option Box := fun i => match lkU u i with | some B => some B | none => b i
def PS.updL (s : PS) (dst : Option Nat) (r : PV) (u : BU) : PS := ⟨tupd s.t dst r, bupdL s.b u⟩
theorem bupdL_opt (b : Nat → Option Box) (u : Option (Nat × Box)) : bupdL b u.toList = bupd b u := by
  funext i
  cases u with
  | none => rfl
  | some x =>
    obtain ⟨j, B⟩ := x
    simp only [Option.toList, bupdL, lkU, bupd]
    by_cases h : i = j
    · simp [h]
    · simp [h]
theorem updL_opt (s : PS) (dst : Option Nat) (r : PV) (u : Option (Nat × Box)) : s.updL dst r u.toList = s.upd dst r u := by
  unfold PS.updL PS.upd
  rw [bupdL_opt]
theorem bupdL_nil (b : Nat → Option Box) : bupdL b [] = b := rfl
mutual
/-- The boxes that a value names. -/
def refsP : PV → List Nat
  | .ptr t _ => [t]
  | .row t _ => [t]
  | .re t _ _ _ => [t]
  | .vw t _ _ _ => [t]
  | .ag cs => refsPs cs
  | .tup cs => refsPs cs
  | .fn _ ps qs => refsPs ps ++ refsPs qs
  | _ => []
def refsPs : List PV → List Nat
  | [] => []
  | c :: cs => refsP c ++ refsPs cs
end
/-- A call that turns boxes of the caller's, or answers rows of its own. -/
def CallM (P : Program) (b : Nat → Option Box) (f : FuncId) (args : List PV) (r : PV) (u : BU) : Prop :=
  callable P f = true ∧ ∃ bi : BU, (∀ t B, lkU bi t = some B → (∃ B', lkU u t = some B') ∧ b t = some B) ∧ (∀ t B, lkU u t = some B → lkU bi t = none → b t = none) ∧
    ∀ (w0 : WM) (F0 : Nat → Prop) (ρ : Nat → Value) (b : Nat → Option Box) (w : World) (F : Nat → Prop) (vs : Array Value), (∀ t B, lkU bi t = some B → b t = some B) → (∀ t B, lkU u t = some B → lkU bi t = none → b t = none) → Inv w0 F0 ρ b w F → Reps ρ b w F vs.toList args →
      Calls P f vs w fun e w' => ∃ v ρ' F', e = .returned v ∧ Inv w0 F0 ρ' (bupdL b u) w' F' ∧ Stp ρ b w F ρ' (bupdL b u) w' F' ∧ PRep ρ' (bupdL b u) w' F' v r
def CallU (P : Program) (b : Nat → Option Box) (p : PV) (args : List PV) (r : PV) (u : BU) : Prop := match p with
  | .fn f ps qs => (u = [] ∧ CallOk P f b (ps ++ args ++ qs) r) ∨ CallM P b f (ps ++ args ++ qs) r u
  | _ => False
def EffW (P : Program) (o : Oper) (s : PS) (r : PV) (u : BU) : Prop :=
  match callOf o with
  | some (x, xs) => CallU P s.b (ev s x) (xs.map (ev s)) r u
  | none => ∃ u0, eff P o s = some (r, u0) ∧ u = u0.toList
def Eff (P : Program) (ops : Array Oper) (o : Oper) (s : PS) (r : PV) (u : BU) : Prop :=
  match guardB ops o s with
  | some true => EffW P o s r u
  | some false => r = .tup [] ∧ u = []
  | none => False

section
variable {P : Program} {ρ ρ' : Nat → Value} {b b' : Nat → Option Box} {w w' : World} {w0 : WM} {F F' F0 : Nat → Prop} {n : Nat} {ops : Array Oper} {Q : Exit → Act → World → Prop}

theorem Conc.put {s : PS} {a : Act} {dst : Option Nat} {v : Value} {r : PV} {u : BU} (h1 : a.tmps.size = n) (h2 : a.defers = []) (hev : ∀ i, PRep ρ s.b w F (a.tmps.getD i undef) (s.t i)) (hd : ∀ d, dst = some d → d < n)
    (hi : Inv w0 F0 ρ' (bupdL s.b u) w' F') (hs : Stp ρ s.b w F ρ' (bupdL s.b u) w' F') (hv : PRep ρ' (bupdL s.b u) w' F' v r) : Conc n w0 F0 (s.updL dst r u) (a.put dst v) w' := by
  cases dst with
  | none =>
    refine ⟨h1, h2, ρ', F', hi, fun i => ?_⟩
    have := (hev i).mono hs
    simpa [PS.updL, tupd, Act.put] using this
  | some d =>
    refine ⟨by simpa [Act.put] using h1, h2, ρ', F', hi, fun i => ?_⟩
    by_cases h : i = d
    · subst h
      have hlt := hd i rfl
      simp only [PS.updL, tupd, Act.put, if_true]
      have : (a.tmps.setIfInBounds i v).getD i undef = v := by simp [h1, hlt]
      rw [this]
      exact hv
    · have h' : ¬ (some d = some i) := fun e => h (by injection e with e; exact e.symm)
      simp only [PS.updL, tupd, Act.put, if_neg h']
      have : (a.tmps.setIfInBounds d v).getD i undef = a.tmps.getD i undef := by simp [Array.getElem?_setIfInBounds, Ne.symm h]
      rw [this]
      exact (hev i).mono hs

theorem call_ok {f : FuncId} {vs : Array Value} {args : List PV} {r : PV} (hi : Inv w0 F0 ρ b w F) (hr : Reps ρ b w F vs.toList args) (h : CallOk P f b args r) :
    callable P f = true ∧ Calls P f vs w fun e w' => ∃ v F', e = .returned v ∧ Inv w0 F0 ρ b w' F' ∧ Stp ρ b w F ρ b w' F' ∧ PRep ρ b w' F' v r := by
  have inv : ∀ {w' : World} {F' : Nat → Prop}, Ext w w' → (∀ g, F g → F' g) → (∀ g, F' g → g < w'.heap.size) → (∀ g, F' g → F g ∨ w.heap.size ≤ g) → Inv w0 F0 ρ b w' F' ∧ Stp ρ b w F ρ b w' F' := by
    intro w' F' hx hF hlt hnew
    have hs : Stp ρ b w F ρ b w' F' := ⟨hF, fun g hg => hx.block g (hi.flt g hg), fun t ty cs h => ⟨⟨ty, cs, h⟩, rfl⟩, fun t e k es h => ⟨e, es, h, Nat.le_refl _, fun _ => rfl⟩⟩
    refine ⟨⟨hi.ext.trans hx, fun g hg => hF g (hi.f0 g hg), hlt, fun g hg => ?_, fun t B h => ?_, hi.dist, hi.reg⟩, hs⟩
    · rcases hnew g hg with h | h
      · exact hi.fnew g h
      · exact .inr (.inl (Nat.le_trans hi.ext.size h))
    · have hb := hi.box t B h
      refine hb.mono hs rfl (fun g hg => hx.block g (hb.lt hg).1) (fun g hg hF' => ?_)
      rcases hnew g hF' with h | h
      · exact (hb.lt hg).2.2 h
      · have := (hb.lt hg).1; omega
  rcases h with ⟨hc, hcr, hp⟩ | ⟨hfl, hp⟩
  · refine ⟨hp.1, (hp.2 w F vs hi.flt ⟨by rw [asDatas_len]; exact hr.len, fun j x c h1 h2 => ?_⟩).mono ?_⟩
    · obtain ⟨d, h3, rfl⟩ := asDatas_get bNone args j c h2
      exact (hr.rep j x d h1 h3).cleanData (cleans_get hc h3)
    rintro e w' ⟨v, F', rfl, hx, h1, h2, h3, h4⟩
    obtain ⟨k1, k2⟩ := inv hx h1 h2 h3
    exact ⟨v, F', rfl, k1, k2, h4.clean hcr⟩
  · refine ⟨hp.1, (hp.2 w (allF ρ b F) vs ?_ ⟨by rw [asDatas_len]; exact hr.len, fun j x c h1 h2 => ?_⟩).mono ?_⟩
    · rintro g (hg | ⟨t, B, hb, hg⟩)
      · exact hi.flt g hg
      · exact ((hi.box t B hb).lt hg).1
    · obtain ⟨d, h3, rfl⟩ := asDatas_get b args j c h2
      exact (hr.rep j x d h1 h3).asData hi
    · rintro e w' ⟨v, F', rfl, hx, h1, h2, h3, h4⟩
      obtain ⟨k1, k2⟩ := inv hx (fun g hg => hg) (fun g hg => Nat.lt_of_lt_of_le (hi.flt g hg) hx.size) (fun g hg => .inl hg)
      exact ⟨v, F, rfl, k1, k2, h4.flat hfl⟩

theorem evs_reps {s : PS} {a : Act} (hev : ∀ x, PRep ρ s.b w F (a.eval x) (ev s x)) (xs : Array Operand) : Reps ρ s.b w F (xs.map a.eval).toList (xs.toList.map (ev s)) :=
  ⟨by simp, fun j x c h1 h2 => by
    rw [Array.toList_map, List.getElem?_map] at h1
    rw [List.getElem?_map] at h2
    cases hj : xs.toList[j]? with
    | none => rw [hj] at h1; cases h1
    | some y =>
      rw [hj] at h1 h2
      injection h1 with h1
      injection h2 with h2
      subst h1 h2
      exact hev y⟩
theorem callU_ok {xv : Value} {p : PV} {vs : Array Value} {args : List PV} {r : PV} {u : BU} (hi : Inv w0 F0 ρ b w F) (hx : PRep ρ b w F xv p) (hr : Reps ρ b w F vs.toList args) (h : CallU P b p args r u) :
    ∃ f us ws, xv = .func (.func f) us ws ∧ callable P f = true ∧ Calls P f (us ++ vs ++ ws) w fun e w' => ∃ v ρ' F', e = .returned v ∧ Inv w0 F0 ρ' (bupdL b u) w' F' ∧ Stp ρ b w F ρ' (bupdL b u) w' F' ∧ PRep ρ' (bupdL b u) w' F' v r := by
  unfold CallU at h
  split at h
  · rename_i f ps qs
    cases hx with
    | fn _ us ws _ _ hl h1 hl2 h2 =>
      have r1 : Reps ρ b w F us.toList ps := ⟨by simpa using hl, fun j x c k1 k2 => h1 j x c (by simpa using k1) k2⟩
      have r2 : Reps ρ b w F ws.toList qs := ⟨by simpa using hl2, fun j x c k1 k2 => h2 j x c (by simpa using k1) k2⟩
      have r3 : Reps ρ b w F (us ++ vs ++ ws).toList (ps ++ args ++ qs) := by
        rw [Array.toList_append, Array.toList_append]
        exact (r1.append hr).append r2
      rcases h with ⟨rfl, h⟩ | ⟨hcb, bi, hb1, hb2, h⟩
      · obtain ⟨k1, k2⟩ := call_ok (P := P) hi r3 h
        refine ⟨f, us, ws, rfl, k1, k2.mono ?_⟩
        rintro e w' ⟨v, F', rfl, m1, m2, m3⟩
        exact ⟨v, ρ, F', rfl, m1, m2, m3⟩
      · exact ⟨f, us, ws, rfl, hcb, h w0 F0 ρ b w F _ (fun t B ht => (hb1 t B ht).2) hb2 hi r3⟩
  · exact h.elim
theorem guard_ok {o : Oper} {s : PS} {a : Act} {t : Bool} (hev : ∀ i, PRep ρ s.b w F (a.tmps.getD i undef) (s.t i)) (h : guardB ops o s = some t) : Region.wanted o (yielded ops a.tmps) = t := by
  unfold guardB at h
  unfold Region.wanted
  split at h
  · rename_i hg
    injection h with h
    simp [hg, ← h]
  · rename_i j want hg
    rw [hg]
    split at h
    · rename_i g hgd
      have hgv := hev g
      split at h
      · rename_i hgt
        injection h with h
        subst h
        rw [hgt] at hgv
        have hu : a.tmps.getD g undef = .tuple #[] := by
          generalize a.tmps.getD g undef = vq at hgv
          cases hgv with
          | tup xs _ hl _ =>
            have : xs = #[] := by apply Array.ext' ; simpa using hl
            rw [this]
        have hy : yielded ops a.tmps j = none := by
          cases ho : ops[j]? with
          | none => simp [ho] at hgd
          | some oj =>
            simp only [ho, Option.bind_some] at hgd
            unfold yielded
            simp only [ho, Option.bind_some, hgd]
            cases hx : a.tmps[g]? with
            | none => rfl
            | some y =>
              have : a.tmps.getD g undef = y := by simp [hx]
              rw [this] at hu
              rw [hu]
        simp only [hy]
        cases want <;> rfl
      · rw [Option.map_eq_some_iff] at h
        obtain ⟨v, h1, rfl⟩ := h
        have h2 := asB_spec hgv h1
        have h3 : a.tmps[g]? = some (.bool v) := by
          cases hx : a.tmps[g]? with
          | none => simp [hx, undef] at h2
          | some y => simp [hx] at h2; rw [h2]
        have hy : yielded ops a.tmps j = some v := by
          cases ho : ops[j]? with
          | none => simp [ho] at hgd
          | some oj =>
            simp only [ho, Option.bind_some] at hgd
            simp [yielded, ho, hgd, h3]
        simp only [hy]
        cases v <;> cases want <;> rfl
    · cases h

/-- One operation. -/
theorem op_ok {f : Nat} {s : PS} {a : Act} {o : Oper} {r : PV} {u : BU} {K : Act → World → Prop} (h : Conc n w0 F0 s a w) (he : Eff P ops o s r u) (hd : ∀ d, o.dst = some d → d < n ∧ d < 1000000)
    (hK : ∀ a' w', Conc n w0 F0 (s.updL o.dst r u) a' w' → K a' w') : if Region.wanted o (yielded ops a.tmps) = true then o.wp P a w K Q else K (a.put o.dst undef) w := by
  obtain ⟨h1, h2, ρ, F, hi, hev⟩ := h
  have hev' := ev_rep hev
  unfold Eff at he
  split at he
  · rename_i hg
    rw [guard_ok hev hg, if_pos rfl]
    unfold EffW at he
    split at he
    · rename_i x xs hc
      have hcall := he
      unfold callOf at hc
      split at hc
      · rename_i c ho
        split at hc
        · rename_i x' hf
          injection hc with hc
          injection hc with e1 e2
          subst e1 e2
          obtain ⟨f', us, vs, hxv, hcb, hcalls⟩ := callU_ok (P := P) hi (hev' x') (evs_reps hev' c.args) hcall
          unfold Oper.wp
          have : (execOp a.eval o).run P w = (callFunc f' (us ++ c.args.map a.eval ++ vs)).run P w := by
            unfold execOp
            simp only [ho, resolve, hf, hxv, Deferred.ofValue, Sem.run_bind, Sem.run_pure, Result.andThen_ok, invoke]
          rw [this]
          unfold callable at hcb
          cases hfn : P.funcs[f']? with
          | none => simp [hfn] at hcb
          | some fn =>
            simp only [hfn, Bool.and_eq_true, Bool.not_eq_true'] at hcb
            obtain ⟨hb1, hb2⟩ := hcb
            have hnone : ¬ fn.body = none := by cases hx : fn.body <;> simp [hx] at hb1 ⊢
            have hname : ¬ fn.name = "runtime.NumGoroutine" := by simpa using hb2
            have hrun : (callFunc f' (us ++ c.args.map a.eval ++ vs)).run P w = .ok (.enter f' (us ++ c.args.map a.eval ++ vs)) w := by
              simp [callFunc, hfn, hname, hnone]
            rw [hrun]
            refine hcalls.mono ?_
            rintro e w' ⟨v, ρ', F', rfl, k1, k2, k3⟩
            exact hK _ _ (Conc.put h1 h2 hev (fun d h => (hd d h).1) k1 k2 k3)
        · cases hc
      · cases hc
    · rename_i hc
      obtain ⟨u0, he, rfl⟩ := he
      obtain ⟨v, w', ρ', F', hrun, k1, k2, k3⟩ := eff_ok (fun d h => (hd d h).2) hi hev' he
      rw [← bupdL_opt] at k1 k2 k3
      unfold Oper.wp
      rcases hrun with hrun | ⟨hrun, rfl⟩
      · rw [hrun]
        exact hK _ _ (Conc.put h1 h2 hev (fun d h => (hd d h).1) k1 k2 k3)
      · rw [hrun]
        exact hK _ _ (Conc.put h1 h2 hev (fun d h => (hd d h).1) k1 k2 k3)
  · rename_i hg
    obtain ⟨rfl, rfl⟩ := he
    rw [guard_ok hev hg, if_neg (by simp)]
    exact hK _ _ (Conc.put h1 h2 hev (fun d h => (hd d h).1) hi (Stp.refl _ _ _ _) (.tup #[] [] rfl (fun j x c h _ => by simp at h)))
  · exact he.elim

/-! ### Regions -/
/-- The slots that a region writes lie in the frame. -/
def dstsB (n : Nat) (l : List Oper) : Bool := l.all fun o => match o.dst with | some d => decide (d < n ∧ d < 1000000) | none => true
theorem dstsB_cons {o : Oper} {l : List Oper} (h : dstsB n (o :: l) = true) : (∀ d, o.dst = some d → d < n ∧ d < 1000000) ∧ dstsB n l = true := by
  simp only [dstsB, List.all_cons, Bool.and_eq_true] at h
  refine ⟨fun d hd => ?_, h.2⟩
  have := h.1
  rw [hd] at this
  simpa using this

/-! ### The code -/
/-- From s on the code ends as Qs says. -/
def PWP (P : Program) (n : Nat) (c : Code) (Qs : Exit → PS → Prop) (s : PS) : Prop :=
  ∀ w0 F0 a w, Conc n w0 F0 s a w → c.wp P (fun e a' w' => ∃ s', Qs e s' ∧ Conc n w0 F0 s' a' w') a w
variable {Qs : Exit → PS → Prop} {s : PS}
theorem pwp_mono {c : Code} {Qs' : Exit → PS → Prop} (h : PWP P n c Qs s) (hq : ∀ e s, Qs e s → Qs' e s) : PWP P n c Qs' s :=
  fun w0 F0 a w hc => wp_mono (h w0 F0 a w hc) fun _ _ _ ⟨s', h1, h2⟩ => ⟨s', hq _ _ h1, h2⟩
theorem pwp_skip (h : Qs .normal s) : PWP P n .skip Qs s := fun _ _ _ _ hc => wp_skip ⟨s, h, hc⟩
theorem pwp_label {l : Nat} (h : Qs .normal s) : PWP P n (.label l) Qs s := fun _ _ _ _ hc => wp_label ⟨s, h, hc⟩
theorem pwp_exit {id : Nat} (h : Qs (.exit id) s) : PWP P n (.exit id) Qs s := fun _ _ _ _ hc => wp_exit ⟨s, h, hc⟩
theorem pwp_ret (h : Qs .ret s) : PWP P n .ret Qs s := fun _ _ _ _ hc => wp_ret ⟨s, h, hc⟩
/-- What follows a code that ends plainly. -/
def thenP (K : PS → Prop) (Qs : Exit → PS → Prop) : Exit → PS → Prop
  | .normal, s => K s
  | e, s => Qs e s
theorem pwp_seq {x y : Code} (h : PWP P n x (thenP (PWP P n y Qs) Qs) s) : PWP P n (.seq x y) Qs s :=
  fun w0 F0 a w hc => wp_seq (wp_mono (h w0 F0 a w hc) fun e a' w' ⟨s', h1, h2⟩ => by
    cases e <;> first | exact h1 w0 F0 a' w' h2 | exact ⟨s', h1, h2⟩)
theorem pwp_cond {c : Operand} {x y : Code} (t : Bool) (ht : asB (ev s c) = some t) (h : PWP P n (if t then x else y) Qs s) : PWP P n (.cond c x y) Qs s :=
  fun w0 F0 a w hc => by
    obtain ⟨_, _, ρ, F, hi, hev⟩ := id hc
    exact wp_cond (asB_spec (ev_rep hev c) ht) (h w0 F0 a w hc)
def inBlockP (id : Nat) (Qs : Exit → PS → Prop) : Exit → PS → Prop
  | .exit id', s => if id' = id then Qs .normal s else Qs (.exit id') s
  | e, s => Qs e s
theorem pwp_block {id : Nat} {c : Code} (h : PWP P n c (inBlockP id Qs) s) : PWP P n (.block id c) Qs s :=
  fun w0 F0 a w hc => wp_block (wp_mono (h w0 F0 a w hc) fun e a' w' ⟨s', h1, h2⟩ => by
    cases e with
    | exit id' =>
      simp only [inBlockP] at h1
      simp only [Exit.inBlock]
      split at h1
      · rename_i hid; rw [if_pos hid]; exact ⟨s', h1, h2⟩
      · rename_i hid; rw [if_neg hid]; exact ⟨s', h1, h2⟩
    | _ => exact ⟨s', h1, h2⟩)
theorem pwp_loop {c : Code} (I : PS → Nat → Prop) (m0 : Nat) (h0 : I s m0) (round : ∀ s m, I s m → PWP P n c (thenP (fun s' => ∃ m', I s' m' ∧ m' < m) Qs) s) : PWP P n (.loop c) Qs s := by
  intro w0 F0 a w hc
  refine wp_loop_ghost (fun m a' w' => ∃ s', I s' m ∧ Conc n w0 F0 s' a' w') m0 ⟨s, h0, hc⟩ (fun m a' w' ⟨s', h1, h2⟩ => ?_)
  refine wp_mono (round s' m h1 w0 F0 a' w' h2) fun e a2 w2 ⟨s2, h3, h4⟩ => ?_
  cases e with
  | normal =>
    obtain ⟨m', h5, h6⟩ := h3
    exact ⟨m', h6, s2, h5, h4⟩
  | _ => exact ⟨s2, h3, h4⟩
end
end Go.Proofs.Ytjeeclabnimbbaa

/- The pure machine: what an operation looks at, and what of the boxes. -/
namespace Go.Proofs.Ytjeeclabnimbbaa
open Go.RowKit

/-- The boxes that an operation reads or writes, but for those that it lays. -/
def footO (o : Oper) (s : PS) : List Nat := match o.op with
  | .load _ x => refsP (ev s x)
  | .store _ x _ => refsP (ev s x)
  | .indexAddr _ x _ => refsP (ev s x)
  | .slice _ x _ _ _ => refsP (ev s x)
  | .convert _ _ x => refsP (ev s x)
  | .call c => (match c.callee with
    | .value f => refsP (ev s f) ++ refsPs (c.args.toList.map (ev s))
    | _ => refsPs (c.args.toList.map (ev s)))
  | _ => []

section
variable {P : Program} {b b' : Nat → Option Box} {ops : Array Oper}
mutual
theorem asData_local : ∀ (p : PV), (∀ x ∈ refsP p, b' x = b x) → asData b' p = asData b p
  | .junk, _ => rfl
  | .d _, _ => rfl
  | .fe _, _ => rfl
  | .ptr _ _, _ => rfl
  | .re _ _ _ _, _ => rfl
  | .vw _ _ _ _, _ => rfl
  | .row t n, h => by simp only [asData]; rw [h t (by simp [refsP])]
  | .ag cs, h => by simp only [asData]; rw [asDatas_local cs (fun x hx => h x (by simpa [refsP] using hx))]
  | .tup cs, h => by simp only [asData]; rw [asDatas_local cs (fun x hx => h x (by simpa [refsP] using hx))]
  | .fn f ps qs, h => by
    simp only [asData]
    rw [asDatas_local ps (fun x hx => h x (by simp [refsP, hx])), asDatas_local qs (fun x hx => h x (by simp [refsP, hx]))]
theorem asDatas_local : ∀ (cs : List PV), (∀ x ∈ refsPs cs, b' x = b x) → asDatas b' cs = asDatas b cs
  | [], _ => rfl
  | c :: cs, h => by
    simp only [asDatas]
    rw [asData_local c (fun x hx => h x (by simp [refsPs, hx])), asDatas_local cs (fun x hx => h x (by simp [refsPs, hx]))]
end
theorem refsPs_app : ∀ (l m : List PV), refsPs (l ++ m) = refsPs l ++ refsPs m
  | [], m => rfl
  | c :: l, m => by simp only [List.cons_append, refsPs, refsPs_app l m, List.append_assoc]
theorem asSl_local (p : PV) (h : ∀ x ∈ refsP p, b' x = b x) : asSl b' p = asSl b p := by
  cases p with
  | row t n => simp only [asSl]; rw [h t (by simp [refsP])]
  | vw t n lo hi => simp only [asSl]; rw [h t (by simp [refsP])]
  | d y => cases y with
    | v y => cases y with
      | slice a n c => cases a <;> rfl
      | _ => rfl
    | sl es => rfl
  | _ => rfl
theorem addrP_local (p : PV) (h : ∀ x ∈ refsP p, b' x = b x) : addrP b' p = addrP b p := by
  cases p with
  | ptr t o => simp only [addrP]; rw [h t (by simp [refsP])]
  | re t n i o => simp only [addrP]; rw [h t (by simp [refsP])]
  | _ => rfl
theorem effStore_local {t : TypeId} {p q : PV} {u : Nat × Box} (h : ∀ x ∈ refsP p, b' x = b x) (he : effStore P b t p q = some u) : effStore P b' t p q = some u := by
  unfold effStore at he ⊢
  cases p with
  | ptr t o => dsimp only at he ⊢; rw [h t (by simp [refsP])]; exact he
  | re t n j o => dsimp only at he ⊢; rw [h t (by simp [refsP])]; exact he
  | _ => exact he
theorem effIndexAddr_local {t : TypeId} {p q : PV} (h : ∀ x ∈ refsP p, b' x = b x) : effIndexAddr P b' t p q = effIndexAddr P b t p q := by
  unfold effIndexAddr
  cases p with
  | row t n => dsimp only; rw [h t (by simp [refsP])]
  | d y => cases y <;> rfl
  | _ => rfl
theorem effSlice_local {t : TypeId} {p : PV} {lo hi : Option PV} (h : ∀ x ∈ refsP p, b' x = b x) : effSlice P b' t p lo hi = effSlice P b t p lo hi := by
  unfold effSlice
  rw [asSl_local p h]
  generalize P.underlying t = U
  cases U with
  | none => rfl
  | some d =>
    cases d with
    | slice e =>
      dsimp only
      generalize tinf P e = T
      cases T with
      | none => rfl
      | some i =>
        cases p with
        | row t n => dsimp only; rw [h t (by simp [refsP])]
        | _ => rfl
    | _ => rfl
theorem effConvB_local {src dst : TypeId} {p : PV} (h : ∀ x ∈ refsP p, b' x = b x) : effConvB P b' src dst p = effConvB P b src dst p := by
  unfold effConvB
  rw [asSl_local p h]
theorem effAppend_local {dst : Option Nat} {t : TypeId} {p q : PV} {r : PV} {u : Option (Nat × Box)} (h1 : ∀ x ∈ refsP p, b' x = b x) (h2 : ∀ x ∈ refsP q, b' x = b x) (h3 : ∀ x B, u = some (x, B) → b' x = b x) (he : effAppend P b dst t p q = some (r, u)) : effAppend P b' dst t p q = some (r, u) := by
  unfold effAppend at he ⊢
  rw [asSl_local q h2]
  split at he
  · rename_i e es2 hu hq
    try simp only [hu, hq]
    split at he
    · rename_i i hti
      try simp only [hti]
      split at he
      · rename_i hc
        rw [if_pos hc]
        split at he
        · rename_i x n
          try simp only
          rw [h1 x (by simp [refsP])]
          exact he
        · rename_i n c
          try simp only
          split at he
          · rename_i hnc
            rw [if_pos hnc]
            split at he
            · rename_i d
              try simp only
              split at he
              · rename_i hbd
                split at he
                · rename_i hs
                  injection he with he
                  injection he with e1 e2
                  subst e1 e2
                  rw [h3 d _ rfl, hbd]
                  simp only [if_pos hs]
                · cases he
              · cases he
            · cases he
          · cases he
        · cases he
      · cases he
    · cases he
  · cases he

theorem partP_refs {p : PV} {x n lo hi : Nat} (h : partP p = some (x, n, lo, hi)) : x ∈ refsP p := by
  cases p with
  | row t m => injection h with h; injection h with h; subst h; simp [refsP]
  | vw t m l k => injection h with h; injection h with h; subst h; simp [refsP]
  | _ => cases h
theorem effCopy_local {t : TypeId} {p q : PV} (h1 : ∀ x ∈ refsP p, b' x = b x) (h2 : ∀ x ∈ refsP q, b' x = b x) : effCopy P b' t p q = effCopy P b t p q := by
  unfold effCopy
  rw [asSl_local q h2]
  cases hp : partP p with
  | none =>
    generalize asSl b q = Y
    generalize P.underlying t = U
    cases U with
    | none => rfl
    | some d => cases d <;> first | rfl | (cases Y <;> rfl)
  | some y =>
    obtain ⟨x, n, lo, hi⟩ := y
    have := h1 x (partP_refs hp)
    generalize asSl b q = Y
    generalize P.underlying t = U
    cases U with
    | none => rfl
    | some d => cases d <;> first | rfl | (cases Y <;> first | rfl | (dsimp only; rw [this]))

/-- The operands' values are the same. -/
def EvSame (o : Oper) (s s' : PS) : Prop := ∀ x ∈ o.op.operands, ev s' x = ev s x
theorem evSame_of {o : Oper} {s s' : PS} (h : ∀ t ∈ o.looksAt ops, s'.t t = s.t t) : EvSame o s s' := by
  intro x hx
  cases x with
  | tmp t =>
    refine h t ?_
    unfold Oper.looksAt
    refine List.mem_append_left _ ?_
    rw [List.mem_filterMap]
    exact ⟨.tmp t, by simpa using hx, rfl⟩
  | _ => rfl
theorem EvSame.symm {o : Oper} {s s' : PS} (h : EvSame o s s') : EvSame o s' s := fun x hx => (h x hx).symm
theorem guardB_same {o : Oper} {s s' : PS} (h : ∀ t ∈ o.looksAt ops, s'.t t = s.t t) : guardB ops o s' = guardB ops o s := by
  unfold guardB
  split
  · rfl
  · rename_i j want hg
    split
    · rename_i g hgd
      rw [h g (by unfold Oper.looksAt; refine List.mem_append_right _ ?_; rw [hg]; simp [hgd])]
    · rfl
theorem parts_same {o : Oper} {s s' : PS} {t : TypeId} {ps : Array (Nat × Operand)} (ho : o.op = .build t ps ∨ ∃ m, o.op = .buildSlice t m ps) (he : EvSame o s s') : (ps.toList.map fun (i, x) => (i, ev s' x)) = (ps.toList.map fun (i, x) => (i, ev s x)) := by
  apply List.map_congr_left
  rintro ⟨i, x⟩ hx
  have : x ∈ o.op.operands := by
    rcases ho with ho | ⟨m, ho⟩ <;> (rw [ho]; simp only [Op.operands, List.mem_toArray, List.mem_map]; exact ⟨(i, x), hx, rfl⟩)
  simp only [he x this]
theorem ops_same {o : Oper} {s s' : PS} {l : Array Operand} (h : ∀ x ∈ l.toList, x ∈ o.op.operands) (he : EvSame o s s') : l.toList.map (ev s') = l.toList.map (ev s) := List.map_congr_left fun x hx => he x (h x hx)
theorem args_same {o : Oper} {s s' : PS} {c : Call} (ho : o.op = .call c) (he : EvSame o s s') : c.args.toList.map (ev s') = c.args.toList.map (ev s) := by
  apply List.map_congr_left
  intro x hx
  refine he x ?_
  rw [ho]
  simp only [Op.operands, Call.operands]
  exact Array.mem_append_right _ (by simpa using hx)
theorem opt_same {o : Oper} {s s' : PS} {x : Option Operand} (h : ∀ y, x = some y → y ∈ o.op.operands) (he : EvSame o s s') : x.map (ev s') = x.map (ev s) := by
  cases x with
  | none => rfl
  | some y => simp [he y (h y rfl)]
theorem footO_same {o : Oper} {s s' : PS} (he : EvSame o s s') : footO o s' = footO o s := by
  unfold footO
  split <;> rename_i ho
  all_goals try rw [he _ (by rw [ho]; simp [Op.operands])]
  · rw [args_same ho he]
    split
    · rename_i f hf
      rw [he f (by rw [ho]; simp only [Op.operands, Call.operands, hf]; exact Array.mem_append_left _ (by simp))]
    · rfl
  · rfl
/-- What an operation does hangs on its operands, and on the boxes that it looks at. -/
theorem eff_local {o : Oper} {s s' : PS} {r : PV} {u : Option (Nat × Box)} (he : EvSame o s s') (h1 : ∀ x ∈ footO o s, s'.b x = s.b x) (h2 : ∀ x B, u = some (x, B) → s'.b x = s.b x) (h : eff P o s = some (r, u)) : eff P o s' = some (r, u) := by
  unfold eff at h ⊢
  unfold footO at h1
  split at h <;> rename_i ho <;> simp only [ho] at h1 ⊢
  case h_1 => rw [he _ (by rw [ho]; simp [Op.operands])]; exact h
  case h_2 => rw [he _ (by rw [ho]; simp [Op.operands])]; exact h
  case h_3 => rw [he _ (by rw [ho]; simp [Op.operands]), he _ (by rw [ho]; simp [Op.operands]), he _ (by rw [ho]; simp [Op.operands])]; exact h
  case h_4 =>
    unfold effAlloc at h ⊢
    split at h
    · rename_i t i hd hi
      try simp only [hd, hi]
      split at h
      · rename_i hb
        injection h with h
        injection h with e1 e2
        subst e1 e2
        rw [h2 t _ rfl, hb]
      · cases h
    · cases h
  case h_5 =>
    rw [he _ (by rw [ho]; simp [Op.operands])]
    unfold effBox at h ⊢
    split at h
    · rename_i t cs hd hi
      try simp only [hd, hi]
      split at h
      · rename_i hb
        injection h with h
        injection h with e1 e2
        subst e1 e2
        rw [h2 t _ rfl, hb]
      · cases h
    · cases h
  case h_6 => rw [parts_same (.inl ho) he]; exact h
  case h_7 =>
    rw [parts_same (.inr ⟨_, ho⟩) he]
    unfold effBuildSlice at h ⊢
    split at h
    · rename_i d e hd hu
      try simp only [hd, hu]
      split at h
      · rename_i i hti hb
        split at h
        · rename_i hc
          split at h
          · rename_i cs hcs
            split at h
            · rename_i ds hds
              injection h with h
              injection h with e1 e2
              subst e1 e2
              rw [h2 d _ rfl, hb]
              simp only [hti, if_pos hc, hcs, hds]
            · cases h
          · cases h
        · cases h
      · cases h
    · cases h
  case h_8 =>
    rw [he _ (by rw [ho]; simp [Op.operands])]
    rw [Option.map_eq_some_iff] at h ⊢
    obtain ⟨r', h3, h4⟩ := h
    refine ⟨r', ?_, h4⟩
    unfold effLoad at h3 ⊢
    rw [addrP_local _ h1]
    exact h3
  case h_9 =>
    rw [he _ (by rw [ho]; simp [Op.operands]), he _ (by rw [ho]; simp [Op.operands])]
    rw [Option.map_eq_some_iff] at h ⊢
    obtain ⟨r', h3, h4⟩ := h
    exact ⟨r', effStore_local h1 h3, h4⟩
  case h_10 => rw [he _ (by rw [ho]; simp [Op.operands]), he _ (by rw [ho]; simp [Op.operands])]; exact h
  case h_11 => rw [he _ (by rw [ho]; simp [Op.operands])]; exact h
  case h_12 => rw [he _ (by rw [ho]; simp [Op.operands]), effConvB_local h1]; exact h
  case h_13 =>
    rename_i t x lo hi
    rw [he x (by rw [ho]; simp [Op.operands]), effSlice_local h1, opt_same (x := lo) (fun y hy => by rw [ho, hy]; simp [Op.operands]) he, opt_same (x := hi) (fun y hy => by rw [ho, hy]; simp [Op.operands]) he]
    exact h
  case h_14 => rw [he _ (by rw [ho]; simp [Op.operands])]; exact h
  case h_15 => rw [he _ (by rw [ho]; simp [Op.operands])]; exact h
  case h_16 => rw [he _ (by rw [ho]; simp [Op.operands]), he _ (by rw [ho]; simp [Op.operands]), effIndexAddr_local h1]; exact h
  case h_17 => rw [he _ (by rw [ho]; simp [Op.operands])]; exact h
  case h_18 => rw [he _ (by rw [ho]; simp [Op.operands]), he _ (by rw [ho]; simp [Op.operands])]; exact h
  case h_19 =>
    rename_i c
    rw [args_same ho he]
    split at h
    · rename_i f hf
      simp only [hf] at h1 ⊢
      unfold effBuiltin at h ⊢
      split at h
      · exact h
      · split at h
        · rename_i x y t t' hx ht
          try simp only [hx, ht]
          split at h
          · rename_i htt
            rw [if_pos htt]
            rw [hx] at h1
            exact effAppend_local (fun z hz => h1 z (by simp [refsPs, hz])) (fun z hz => h1 z (by simp [refsPs, hz])) h2 h
          · cases h
        · cases h
      · exact h
      · exact h
      · split at h
        · rename_i x y t t' hx ht
          try simp only [hx, ht]
          rw [hx] at h1
          rw [effCopy_local (fun z hz => h1 z (by simp [refsPs, hz])) (fun z hz => h1 z (by simp [refsPs, hz]))]
          exact h
        · cases h
      · cases h
    · cases h
  case h_20 =>
    rename_i f ps qs
    rw [ops_same (l := ps) (fun x hx => by rw [ho]; simp only [Op.operands]; exact Array.mem_append_left _ (by simpa using hx)) he, ops_same (l := qs) (fun x hx => by rw [ho]; simp only [Op.operands]; exact Array.mem_append_right _ (by simpa using hx)) he]
    exact h
  case h_21 =>
    rw [he _ (by rw [ho]; simp [Op.operands]), he _ (by rw [ho]; simp [Op.operands])]
    unfold effMake at h ⊢
    split at h
    · rename_i d e k1 n k2 m hd hu hn hm
      try simp only [hd, hu, hn, hm]
      split at h
      · rename_i i hti hb
        split at h
        · rename_i hc
          injection h with h
          injection h with e1 e2
          subst e1 e2
          rw [h2 d _ rfl, hb]
          simp only [hti, if_pos hc]
        · cases h
      · cases h
    · cases h
  case h_22 => cases h
theorem callOf_ops {o : Oper} {f : Operand} {xs : List Operand} (h : callOf o = some (f, xs)) : (∀ x ∈ xs, x ∈ o.op.operands) ∧ f ∈ o.op.operands ∧ ∀ s, footO o s = refsP (ev s f) ++ refsPs (xs.map (ev s)) := by
  unfold callOf at h
  split at h
  · rename_i c ho
    split at h
    · rename_i f' hf
      injection h with h
      injection h with e1 e2
      subst e1 e2
      refine ⟨fun x hx => ?_, ?_, fun s => ?_⟩
      · rw [ho]
        simp only [Op.operands, Call.operands]
        exact Array.mem_append_right _ (by simpa using hx)
      · rw [ho]
        simp only [Op.operands, Call.operands, hf]
        exact Array.mem_append_left _ (by simp)
      · unfold footO
        simp only [ho, hf]
    · cases h
  · cases h
theorem callU_local {p : PV} {args : List PV} {r : PV} {u : BU} (h1 : ∀ x ∈ refsP p ++ refsPs args, b' x = b x) (h2 : ∀ x B, lkU u x = some B → b' x = b x) (h : CallU P b p args r u) : CallU P b' p args r u := by
  unfold CallU at h ⊢
  split at h
  · rename_i f ps qs
    have hr : ∀ x ∈ refsPs (ps ++ args ++ qs), b' x = b x := fun x hx => h1 x (by
      rw [refsPs_app, refsPs_app] at hx
      simp only [refsP, List.mem_append] at hx ⊢
      rcases hx with (h | h) | h <;> simp [h])
    rcases h with ⟨h3, h4⟩ | ⟨h3, bi, h4, h5, h6⟩
    · refine .inl ⟨h3, ?_⟩
      unfold CallOk at h4 ⊢
      rw [asDatas_local _ hr]
      exact h4
    · refine .inr ⟨h3, bi, fun t B ht => ⟨(h4 t B ht).1, ?_⟩, fun t B ht hn => ?_, h6⟩
      · obtain ⟨⟨B', hB'⟩, h7⟩ := h4 t B ht
        rw [h2 t B' hB']; exact h7
      · rw [h2 t B ht]; exact h5 t B ht hn
  · exact h.elim
theorem effW_local {o : Oper} {s s' : PS} {r : PV} {u : BU} (he : EvSame o s s') (h1 : ∀ x ∈ footO o s, s'.b x = s.b x) (h2 : ∀ x B, lkU u x = some B → s'.b x = s.b x) (h : EffW P o s r u) : EffW P o s' r u := by
  unfold EffW at h ⊢
  split at h
  · rename_i f xs hc
    obtain ⟨k1, k2, k3⟩ := callOf_ops hc
    rw [k3 s] at h1
    have e1 : xs.map (ev s') = xs.map (ev s) := List.map_congr_left fun x h => he x (k1 x h)
    rw [e1, he f k2]
    exact callU_local h1 h2 h
  · obtain ⟨u0, h3, rfl⟩ := h
    refine ⟨u0, eff_local he h1 (fun x B hu => h2 x B ?_) h3, rfl⟩
    subst hu
    simp [Option.toList, lkU]
end
end Go.Proofs.Ytjeeclabnimbbaa

/- The pure machine: regions whose order is drawn come to what the text's order comes to: operations that no edge binds look at, and write, boxes apart. -/
namespace Go.Proofs.Ytjeeclabnimbbaa
open Go.RowKit

section
variable {P : Program} {ρ ρ' : Nat → Value} {b b' : Nat → Option Box} {w w' : World} {w0 : WM} {F F' F0 : Nat → Prop} {n : Nat} {ops : Array Oper} {Q : Exit → Act → World → Prop}

theorem updL_t {s : PS} {d : Option Nat} {r : PV} {u : BU} {t : Nat} (h : d ≠ some t) : (s.updL d r u).t t = s.t t := by
  simp [PS.updL, tupd, h]
theorem updL_b {s : PS} {d : Option Nat} {r : PV} {u : BU} {x : Nat} (h : lkU u x = none) : (s.updL d r u).b x = s.b x := by
  simp [PS.updL, bupdL, h]
theorem updL_comm {s : PS} {d d' : Option Nat} {r r' : PV} {u u' : BU} (hd : ∀ x, d = some x → d' ≠ some x) (hu : ∀ x B B', lkU u x = some B → lkU u' x ≠ some B') : (s.updL d r u).updL d' r' u' = (s.updL d' r' u').updL d r u := by
  unfold PS.updL
  congr 1
  · funext i
    show (if d' = some i then r' else if d = some i then r else s.t i) = (if d = some i then r else if d' = some i then r' else s.t i)
    by_cases h : d = some i
    · rw [if_neg (hd i h), if_pos h, if_pos h]
    · rw [if_neg h, if_neg h]
  · funext i
    show (match lkU u' i with | some B => some B | none => match lkU u i with | some B => some B | none => s.b i) = (match lkU u i with | some B => some B | none => match lkU u' i with | some B => some B | none => s.b i)
    cases h : lkU u i with
    | none => rfl
    | some B =>
      cases h' : lkU u' i with
      | none => rfl
      | some B' => exact absurd h' (hu i B B' h)
/-- What an operation may look at, and what it may write, boxes that it lays among them. -/
abbrev Bd := List Nat × List Nat
def FootC (ops : Array Oper) (o : Oper) (s : PS) (u : BU) (B : Bd) : Prop := (guardB ops o s = some true → ∀ x ∈ footO o s, memL B.1 x = true) ∧ ∀ x Bx, lkU u x = some Bx → memL B.2 x = true
 where memL : List Nat → Nat → Bool
  | [], _ => false
  | j :: l, i => match Nat.beq i j with | true => true | false => memL l i
def disjL : List Nat → List Nat → Bool
  | [], _ => true
  | a :: l, m => match FootC.memL m a with | true => false | false => disjL l m
theorem memL_cons (j : Nat) (l : List Nat) (i : Nat) : FootC.memL (j :: l) i = (decide (i = j) || FootC.memL l i) := by
  simp only [FootC.memL]
  by_cases h : i = j
  · subst h; simp
  · have : Nat.beq i j = false := by rw [← Bool.not_eq_true, Nat.beq_eq]; exact h
    simp [this, h]
theorem disjL_spec : ∀ {a m : List Nat}, disjL a m = true → ∀ x, FootC.memL a x = true → FootC.memL m x = false
  | [], m, _, x, hx => by cases hx
  | y :: a, m, h, x, hx => by
    simp only [disjL] at h
    split at h
    · cases h
    · rename_i hy
      rw [memL_cons, Bool.or_eq_true] at hx
      rcases hx with hx | hx
      · have := of_decide_eq_true hx
        subst this
        exact hy
      · exact disjL_spec h x hx
def indepF (x y : Bd) : Bool := disjL x.2 y.1 && (disjL x.2 y.2 && disjL y.2 x.1)
/-- k stands ahead of i in the text, and may come behind it as well. -/
theorem swapF {k i : Oper} {s : PS} {rk ri : PV} {uk ui : BU} {Bk Bi : Bd} (hap : k.apart ops i = true) (hin : indepF Bk Bi = true) (h1 : Eff P ops k s rk uk) (f1 : FootC ops k s uk Bk) (h2 : Eff P ops i (s.updL k.dst rk uk) ri ui) (f2 : FootC ops i (s.updL k.dst rk uk) ui Bi) :
    Eff P ops i s ri ui ∧ FootC ops i s ui Bi ∧ Eff P ops k (s.updL i.dst ri ui) rk uk ∧ FootC ops k (s.updL i.dst ri ui) uk Bk ∧ (s.updL k.dst rk uk).updL i.dst ri ui = (s.updL i.dst ri ui).updL k.dst rk uk := by
  obtain ⟨a1, a2, a3⟩ := Oper.apart_spec hap
  simp only [indepF, Bool.and_eq_true] at hin
  obtain ⟨d1, d2, d3⟩ := hin
  have ti : ∀ t ∈ i.looksAt ops, (s.updL k.dst rk uk).t t = s.t t := fun t ht => updL_t (fun e => a1 t e ht)
  have tk : ∀ t ∈ k.looksAt ops, (s.updL i.dst ri ui).t t = s.t t := fun t ht => updL_t (fun e => a3 t e ht)
  have gi := guardB_same (s := s) (s' := s.updL k.dst rk uk) ti
  have gk := guardB_same (s := s) (s' := s.updL i.dst ri ui) tk
  have evi := evSame_of (s := s) (s' := s.updL k.dst rk uk) ti
  have evk := evSame_of (s := s) (s' := s.updL i.dst ri ui) tk
  have offk : ∀ x, FootC.memL Bk.2 x = false → (s.updL k.dst rk uk).b x = s.b x := fun x hx => by
    refine updL_b ?_
    cases h : lkU uk x with
    | none => rfl
    | some B => rw [f1.2 x B h] at hx; cases hx
  have offi : ∀ x, FootC.memL Bi.2 x = false → (s.updL i.dst ri ui).b x = s.b x := fun x hx => by
    refine updL_b ?_
    cases h : lkU ui x with
    | none => rfl
    | some B => rw [f2.2 x B h] at hx; cases hx
  have nik : ∀ x, FootC.memL Bi.1 x = true ∨ FootC.memL Bi.2 x = true → FootC.memL Bk.2 x = false := fun x hx => by
    cases h : FootC.memL Bk.2 x with
    | false => rfl
    | true =>
      rcases hx with hx | hx
      · rw [disjL_spec d1 x h] at hx; cases hx
      · rw [disjL_spec d2 x h] at hx; cases hx
  have nki : ∀ x, FootC.memL Bk.1 x = true ∨ FootC.memL Bk.2 x = true → FootC.memL Bi.2 x = false := fun x hx => by
    cases h : FootC.memL Bi.2 x with
    | false => rfl
    | true =>
      rcases hx with hx | hx
      · rw [disjL_spec d3 x h] at hx; cases hx
      · rw [disjL_spec d2 x hx] at h; cases h
  have fi : footO i (s.updL k.dst rk uk) = footO i s := footO_same evi
  have fk : footO k (s.updL i.dst ri ui) = footO k s := footO_same evk
  refine ⟨?_, ⟨fun hg x hx => f2.1 (by rw [gi]; exact hg) x (by rw [fi]; exact hx), f2.2⟩, ?_, ⟨fun hg x hx => f1.1 (by rw [← gk]; exact hg) x (by rw [← fk]; exact hx), f1.2⟩, updL_comm a2 fun x B B' e1 e2 => ?_⟩
  · unfold Eff at h2 ⊢
    rw [gi] at h2
    split at h2
    · rename_i hg
      refine effW_local (s := s.updL k.dst rk uk) (s' := s) evi.symm (fun x hx => ?_) (fun x B hx => ?_) h2
      · exact (offk x (nik x (.inl (f2.1 (by rw [gi]; exact hg) x hx)))).symm
      · exact (offk x (nik x (.inr (f2.2 x B hx)))).symm
    · exact h2
    · exact h2
  · unfold Eff at h1 ⊢
    rw [gk]
    split at h1
    · rename_i hg
      refine effW_local (s := s) (s' := s.updL i.dst ri ui) evk (fun x hx => ?_) (fun x B hx => ?_) h1
      · exact offi x (nki x (.inl (f1.1 hg x hx)))
      · exact offi x (nki x (.inr (f1.2 x B hx)))
    · exact h1
    · exact h1
  · have := f1.2 x B e1
    rw [nik x (.inr (f2.2 x B' e2))] at this
    cases this
/-- The operations by their numbers. -/
def RunI (P : Program) (ops : Array Oper) (bd : Nat → Bd) : List Nat → PS → (PS → Prop) → Prop
  | [], s, K => K s
  | i :: l, s, K => ∃ o r u, ops[i]? = some o ∧ Eff P ops o s r u ∧ FootC ops o s u (bd i) ∧ RunI P ops bd l (s.updL o.dst r u) K
theorem runI_mono {bd : Nat → Bd} {K K' : PS → Prop} : ∀ {l : List Nat} {s : PS}, RunI P ops bd l s K → (∀ s, K s → K' s) → RunI P ops bd l s K'
  | [], s, h, hk => hk s h
  | i :: l, s, ⟨o, r, u, h1, h2, h3, h4⟩, hk => ⟨o, r, u, h1, h2, h3, runI_mono h4 hk⟩
/-- The i-th hangs on the k-th, by way of others too. -/
def hangs (ops : Array Oper) : Nat → Nat → Nat → Bool
  | 0, _, _ => false
  | f + 1, i, k => match ops[i]? with
    | none => false
    | some o => o.after.any fun e => Region.binds .any e && (e.on == k || hangs ops f e.on k)
def Closed (ops : Array Oper) (listed : Array Bool) : Prop := ∀ j, listed.getD j false = true → ∀ o, ops[j]? = some o → ∀ e ∈ o.after, Region.binds .any e = true → listed.getD e.on false = true
theorem hangs_done {ops : Array Oper} {listed : Array Bool} (hc : Closed ops listed) : ∀ (f i k : Nat), hangs ops f i k = true → (∀ o, ops[i]? = some o → ∀ e ∈ o.after, Region.binds .any e = true → listed.getD e.on false = true) → listed.getD k false = true
  | 0, _, _, h, _ => by cases h
  | f + 1, i, k, h, hi => by
    unfold hangs at h
    split at h
    · cases h
    · rename_i o ho
      rw [← Array.any_toList, List.any_eq_true] at h
      obtain ⟨e, he, h⟩ := h
      simp only [Bool.and_eq_true, Bool.or_eq_true, beq_iff_eq] at h
      have hd := hi o ho e (by simpa using he) h.1
      rcases h.2 with h2 | h2
      · rw [← h2]; exact hd
      · exact hangs_done hc f e.on k h2 (fun o' ho' => hc e.on hd o' ho')
/-- What a region must show: edges go back; what no edge binds may be turned about; slots lie in the frame. -/
def drawF (bd : Nat → Bd) (n : Nat) (ops : Array Oper) : Bool :=
  (List.range ops.size).all fun i => match ops[i]? with
    | none => true
    | some o => (match o.dst with | some d => decide (d < n ∧ d < 1000000) | none => true) && (o.after.all fun e => !Region.binds .any e || decide (e.on < i)) &&
        (List.range i).all fun k => match ops[k]? with
          | none => true
          | some x => (x.apart ops o && indepF (bd k) (bd i)) || hangs ops 4 i k
theorem drawF_spec {bd : Nat → Bd} {n : Nat} {ops : Array Oper} (h : drawF bd n ops = true) {i : Nat} {o : Oper} (hi : ops[i]? = some o) :
    (∀ d, o.dst = some d → d < n ∧ d < 1000000) ∧ (∀ e ∈ o.after, Region.binds .any e = true → e.on < i) ∧ ∀ k x, k < i → ops[k]? = some x → hangs ops 4 i k = true ∨ (x.apart ops o = true ∧ indepF (bd k) (bd i) = true) := by
  unfold drawF at h
  rw [List.all_eq_true] at h
  have h := h i (List.mem_range.2 (Array.getElem?_eq_some_iff.1 hi).1)
  rw [hi] at h
  simp only [Bool.and_eq_true, List.all_eq_true] at h
  obtain ⟨⟨h1, h2⟩, h3⟩ := h
  refine ⟨fun d hd => by rw [hd] at h1; simpa using h1, fun e he hb => ?_, fun k x hk hx => ?_⟩
  · have := (Array.all_eq_true_iff_forall_mem.1 h2) e he
    rw [hb] at this
    simpa using this
  · have := h3 k (List.mem_range.2 hk)
    rw [hx] at this
    simp only [Bool.or_eq_true, Bool.and_eq_true] at this
    exact this.symm
theorem move_front {bd : Nat → Bd} {K : PS → Prop} {i : Nat} {oi : Oper} (hoi : ops[i]? = some oi) : ∀ (l1 l2 : List Nat) (s : PS), (∀ k ∈ l1, ∀ ok, ops[k]? = some ok → ok.apart ops oi = true ∧ indepF (bd k) (bd i) = true) → RunI P ops bd (l1 ++ i :: l2) s K → RunI P ops bd (i :: (l1 ++ l2)) s K
  | [], l2, s, _, h => h
  | k :: l1, l2, s, hk, h => by
    obtain ⟨ok, rk, uk, hok, h1, f1, h2⟩ := h
    obtain ⟨o', ri, ui, ho', h3, f3, h4⟩ := move_front hoi l1 l2 _ (fun j hj => hk j (by simp [hj])) h2
    rw [hoi] at ho'
    injection ho' with ho'
    subst ho'
    obtain ⟨p1, p2⟩ := hk k (by simp) ok hok
    obtain ⟨e1, e2, e3, e4, e5⟩ := swapF p1 p2 h1 f1 h3 f3
    exact ⟨oi, ri, ui, hoi, e1, e2, ok, rk, uk, hok, e3, e4, by rw [← e5]; exact h4⟩
theorem any_ok {bd : Nat → Bd} {Qs : Exit → PS → Prop} (hQ : ∀ e s a w, Qs e s → Conc n w0 F0 s a w → Q e a w) (hB : drawF bd n ops = true) : ∀ (m : Nat) (l : List Nat) (listed : Array Bool) (s : PS) (a : Act) (w : World), l.length = m → l.Pairwise (· < ·) → (∀ j, j ∈ l ↔ (j < ops.size ∧ listed.getD j true = false)) → listed.size = ops.size → Closed ops listed →
    RunI P ops bd l s (Qs .normal) → Conc n w0 F0 s a w → wpAny P .any ops Q m listed a w
  | 0, l, listed, s, a, w, hl, _, hm, hls, _, h, hc => by
    have : l = [] := List.eq_nil_of_length_eq_zero hl
    subst this
    refine ⟨?_, hQ _ s a w h hc⟩
    rw [List.eq_nil_iff_forall_not_mem]
    intro j hj
    obtain ⟨h1, o, h2, _⟩ := mem_ready.1 hj
    have := (hm j).2 ⟨(Array.getElem?_eq_some_iff.1 h2).1, h1⟩
    simp at this
  | m + 1, l, listed, s, a, w, hl, hs, hm, hls, hcl, h, hc => by
    refine ⟨fun h0 => ?_, fun i hi => ?_⟩
    · exfalso
      cases l with
      | nil => simp at hl
      | cons k l =>
        have hk := (hm k).1 (by simp)
        have hok : ops[k]? = some ops[k] := Array.getElem?_eq_getElem hk.1
        have : k ∈ Region.ready .any ops listed := by
          refine mem_ready.2 ⟨hk.2, _, hok, fun e he hb => ?_⟩
          have hlt := (drawF_spec hB hok).2.1 e he hb
          cases hx : listed.getD e.on false with
          | true => rfl
          | false =>
            exfalso
            have hsz : e.on < listed.size := by rw [hls]; omega
            have h2 : listed.getD e.on true = false := by
              simp [hsz] at hx ⊢; exact hx
            have := (hm e.on).2 ⟨by omega, h2⟩
            rcases List.mem_cons.1 this with h | h
            · omega
            · have := (List.pairwise_cons.1 hs).1 _ h
              omega
        rw [h0] at this
        cases this
    · obtain ⟨hun, oi, hoi, hall⟩ := mem_ready.1 hi
      have hin : i ∈ l := (hm i).2 ⟨(Array.getElem?_eq_some_iff.1 hoi).1, hun⟩
      obtain ⟨l1, l2, rfl⟩ := List.append_of_mem hin
      have hpw := List.pairwise_append.1 hs
      have hfront := move_front (P := P) (bd := bd) (K := Qs .normal) hoi l1 l2 s (fun k hk ok hok => by
        have hlt : k < i := hpw.2.2 k hk i (by simp)
        rcases (drawF_spec hB hoi).2.2 k ok hlt hok with hh | h
        · exfalso
          have h1 := hangs_done hcl 4 i k hh (fun o' ho' e he hb => by rw [hoi] at ho'; cases ho'; exact hall e he hb)
          have h2 := ((hm k).1 (by simp [hk])).2
          have hsz : k < listed.size := by
            rw [hls]; exact ((hm k).1 (by simp [hk])).1
          simp [hsz] at h1 h2
          rw [h1] at h2
          cases h2
        · exact h) h
      obtain ⟨o', r, u, ho', h1, _, h2⟩ := hfront
      rw [hoi] at ho'
      injection ho' with ho'
      subst ho'
      have hstep := op_ok (f := 0) (Q := Q) (K := wpAny P .any ops Q m (listed.setIfInBounds i true)) hc h1 (drawF_spec hB hoi).1 (fun a' w' hc' => by
        have hmono : ∀ j, listed.getD j false = true → (listed.setIfInBounds i true).getD j false = true := fun j hj => by
          by_cases hji : j = i
          · subst hji
            have hsz : j < listed.size := by rw [hls]; exact (Array.getElem?_eq_some_iff.1 hoi).1
            simp [hsz]
          · rw [getD_set_ne false (Ne.symm hji)]; exact hj
        refine any_ok hQ hB m (l1 ++ l2) _ _ a' w' (by simp at hl ⊢; omega) ?_ (fun j => ?_) (by simpa using hls) (fun j hj o ho e he hb => ?_) h2 hc'
        rotate_right
        · by_cases hji : j = i
          · subst hji
            rw [hoi] at ho
            cases ho
            exact hmono _ (hall e he hb)
          · rw [getD_set_ne false (Ne.symm hji)] at hj
            exact hmono _ (hcl j hj o ho e he hb)
        · have h3 := List.pairwise_cons.1 hpw.2.1
          exact List.pairwise_append.2 ⟨hpw.1, h3.2, fun x hx y hy => hpw.2.2 x hx y (by simp [hy])⟩
        · by_cases hji : j = i
          · subst hji
            have hsz : j < listed.size := by rw [hls]; exact (Array.getElem?_eq_some_iff.1 hoi).1
            refine ⟨fun hmem => ?_, fun ⟨_, hx⟩ => ?_⟩
            · exfalso
              rcases List.mem_append.1 hmem with h | h
              · have := hpw.2.2 j h j (by simp); omega
              · have := (List.pairwise_cons.1 hpw.2.1).1 j h; omega
            · simp [hsz] at hx
          · rw [getD_set_ne true (Ne.symm hji), ← hm j]
            simp [hji])
      unfold wpOp
      rw [hoi]
      simp only
      split
      · rename_i hw
        rw [if_pos hw] at hstep
        exact .inl hstep
      · rename_i hw
        rw [if_neg hw] at hstep
        exact hstep

theorem Conc.drew {s : PS} {a : Act} (h : Conc n w0 F0 s a w) (d : Nat) : Conc n w0 F0 s a { w with drawn := d } := by
  obtain ⟨h1, h2, ρ, F, hi, hev⟩ := h
  have hs : Stp ρ s.b w F ρ s.b { w with drawn := d } F := ⟨fun _ h => h, fun _ _ => rfl, fun _ ty cs h => ⟨⟨ty, cs, h⟩, rfl⟩, fun _ e _ es h => ⟨e, es, h, Nat.le_refl _, fun _ => rfl⟩⟩
  refine ⟨h1, h2, ρ, F, ⟨?_, hi.f0, hi.flt, hi.fnew, fun t B hb => (hi.box t B hb).mono hs rfl (fun _ _ => rfl) (fun g hg => ((hi.box t B hb).lt hg).2.2), hi.dist, hi.reg⟩, fun i => (hev i).mono hs⟩
  exact ⟨hi.ext.os, hi.ext.tape, hi.ext.output, hi.ext.size, hi.ext.block⟩
/-- **A region whose order is drawn.** -/
theorem pwp_draw (bd : Nat → Bd) {Qs : Exit → PS → Prop} {s : PS} {id : Nat} {l : List Oper} (hm : P.follows .mixedOrders = true) (hB : drawF bd n l.toArray = true) (h : RunI P l.toArray bd (List.range' 0 l.length) s (Qs .normal)) : PWP P n (.region id l.toArray true) Qs s := by
  intro w0 F0 a w hc
  refine wp_region_any hm ?_
  refine any_ok (Qs := Qs) (fun _ s' _ _ h1 h2 => ⟨s', h1, h2⟩) hB l.toArray.size (List.range' 0 l.length) _ s a _ (by simp) List.pairwise_lt_range' (fun j => ?_) (by simp) (fun j hj => by exfalso; simp only [Array.getD_eq_getD_getElem?, Array.getElem?_replicate] at hj; split at hj <;> cases hj) h (hc.drew _)
  simp only [List.mem_range'_1, Nat.zero_le, true_and, Nat.zero_add, List.size_toArray]
  refine ⟨fun h => ⟨h, by simp [h]⟩, fun h => h.1⟩
end
end Go.Proofs.Ytjeeclabnimbbaa

/- The pure machine: functions; states as lists; what may be forgotten. -/
namespace Go.Proofs.Ytjeeclabnimbbaa
open Go.RowKit

/-- What a result variable holds. -/
def resP (P : Program) (s : PS) : ResultVar → Option PV
  | .tmp t => some (s.t t)
  | .cell t ty => effLoad P s.b ty (s.t t)
def resAll (P : Program) (fn : Func) (s : PS) : Option PV :=
  match fn.results.toList.mapM (resP P s) with
  | some [p] => some p
  | some ps => some (.tup ps)
  | none => none
/-- How a function ends that answers r. -/
def RetP (P : Program) (fn : Func) (r : PV) (e : Exit) (s : PS) : Prop :=
  (match e with | .normal => True | .ret => True | _ => False) ∧ ∃ p, resAll P fn s = some p ∧ asData s.b p = r
def argsT (args : List PV) : Nat → PV := fun i => (args[i]?).getD .junk

section
variable {P : Program} {ρ ρ' : Nat → Value} {b b' : Nat → Option Box} {w w' : World} {w0 : WM} {F F' F0 : Nat → Prop} {n : Nat}

theorem res_one {s : PS} {a : Act} (hi : Inv w0 F0 ρ s.b w F) (hev : ∀ i, PRep ρ s.b w F (a.tmps.getD i undef) (s.t i)) {x : ResultVar} {p : PV} (h : resP P s x = some p) :
    ∃ v, ((match x with | .tmp t => pure (a.tmps.getD t undef) | .cell i t => do loadVar t (← asAddr (a.tmps.getD i undef)) : Sem Value)).run P w = .ok v w ∧ PRep ρ s.b w F v p := by
  cases x with
  | tmp t =>
    simp only [resP] at h
    injection h with h
    subst h
    exact ⟨_, rfl, hev t⟩
  | cell t ty =>
    simp only [resP] at h
    have h0 := h
    unfold effLoad at h0
    split at h0
    · rename_i i cl hti hcl
      obtain ⟨ad, hx, _⟩ := addrP_reads hi (hev t) hcl
      obtain ⟨v, h1, h2⟩ := effLoad_ok hi (hev t) h
      refine ⟨v, ?_, h1⟩
      show (do loadVar ty (← asAddr (a.tmps.getD t undef)) : Sem Value).run P w = .ok v w
      rw [hx] at h2 ⊢
      simpa [Instr.loadAt, Instr.sureAddr, asAddr] using h2
    · cases h0
theorem res_all {s : PS} {a : Act} (hi : Inv w0 F0 ρ s.b w F) (hev : ∀ i, PRep ρ s.b w F (a.tmps.getD i undef) (s.t i)) : ∀ (l : List ResultVar) (ps : List PV), l.mapM (resP P s) = some ps →
    ∃ vs : List Value, (l.mapM (fun x => (match x with | .tmp t => pure (a.tmps.getD t undef) | .cell i t => do loadVar t (← asAddr (a.tmps.getD i undef)) : Sem Value))).run P w = .ok vs w ∧ Reps ρ s.b w F vs ps
  | [], ps, h => by simp at h; subst h; exact ⟨[], by simp, .nil⟩
  | x :: l, ps, h => by
    simp only [List.mapM_cons, Option.bind_eq_bind, Option.pure_def] at h
    cases hx : resP P s x with
    | none => simp [hx] at h
    | some p =>
      cases hl : l.mapM (resP P s) with
      | none => simp [hx, hl] at h
      | some ps' =>
        simp [hx, hl] at h
        subst h
        obtain ⟨v, h1, h2⟩ := res_one hi hev hx
        obtain ⟨vs, h3, h4⟩ := res_all hi hev l ps' hl
        refine ⟨v :: vs, ?_, .cons h2 h4⟩
        rw [List.mapM_cons]
        simp only [Sem.run_bind, h1, Result.andThen_ok, h3, Sem.run_pure]
theorem results_ok {fn : Func} {s : PS} {a : Act} {p : PV} (hi : Inv w0 F0 ρ s.b w F) (hev : ∀ i, PRep ρ s.b w F (a.tmps.getD i undef) (s.t i)) (h : resAll P fn s = some p) : ∃ v, (results fn a.tmps).run P w = .ok v w ∧ PRep ρ s.b w F v p := by
  unfold resAll at h
  have key : ∀ ps, fn.results.toList.mapM (resP P s) = some ps → ∃ vs : List Value, (fn.results.mapM (fun x => (match x with | .tmp t => pure (a.tmps.getD t undef) | .cell i t => do loadVar t (← asAddr (a.tmps.getD i undef)) : Sem Value))).run P w = .ok vs.toArray w ∧ Reps ρ s.b w F vs ps := by
    intro ps hps
    obtain ⟨vs, h1, h2⟩ := res_all hi hev _ ps hps
    refine ⟨vs, ?_, h2⟩
    rw [Array.mapM_eq_mapM_toList]
    rw [show ∀ (m : Sem (List Value)), (Functor.map List.toArray m) = (do let l ← m; pure l.toArray) from fun m => rfl]
    rw [Sem.run_bind, h1]
    rfl
  split at h
  · rename_i q hq
    injection h with h
    subst h
    obtain ⟨vs, h1, h2⟩ := key _ hq
    have hl := h2.len
    match vs, hl with
    | [v], _ =>
      refine ⟨v, ?_, h2.rep 0 v q rfl rfl⟩
      unfold results
      rw [Sem.run_bind]
      erw [h1]
      simp
  · rename_i ps hne hq
    injection h with h
    subst h
    obtain ⟨vs, h1, h2⟩ := key _ hq
    have hsz : ¬ vs.length = 1 := by
      rw [h2.len]
      intro h
      match ps, h with
      | [q], _ => exact hne q rfl
    refine ⟨.tuple vs.toArray, ?_, .tup _ _ (by simpa using h2.len) (fun j x c h3 h4 => h2.rep j x c (by simpa using h3) h4)⟩
    unfold results
    rw [Sem.run_bind]
    erw [h1]
    simp [hsz]
  · cases h

/-- **A function's contract, by its body.** -/
theorem pc_intro {f : FuncId} {fn : Func} {c : Code} {args : List PV} {r : PV} (hf : P.funcs[f]? = some fn) (hb : fn.body = some c) (hcb : callable P f = true) (hlen : args.length ≤ fn.ntmps)
    (h : PWP P fn.ntmps c (RetP P fn r) ⟨argsT args, bNone⟩) : PC P f args r := by
  refine ⟨hcb, fun w F vs hF hr => ?_⟩
  refine calls_of_wp hf hb ?_
  have hl : vs.size = args.length := by have := hr.len; simpa using this
  have hc : Conc fn.ntmps ⟨w, fun _ => False, fun _ => none⟩ F ⟨argsT args, bNone⟩ { tmps := vs ++ Array.replicate (fn.ntmps - vs.size) undef, defers := [] } w := by
    refine ⟨by simp; omega, rfl, ρNone, F, ⟨.of w rfl, fun _ h => h, hF, fun _ h => .inl h, (fun t B h => by cases h), (fun t t' B B' g h => by cases h), (fun t q h => by cases h)⟩, fun i => ?_⟩
    by_cases hi : i < vs.size
    · have e1 : (vs ++ Array.replicate (fn.ntmps - vs.size) undef).getD i undef = vs[i] := by simp [Array.getElem?_append, hi]
      show PRep ρNone bNone w F _ (argsT args i)
      rw [e1]
      have hia : i < args.length := by omega
      unfold argsT
      rw [List.getElem?_eq_getElem hia]
      exact hr.rep i _ _ (by simp [hi]) (List.getElem?_eq_getElem hia)
    · show PRep ρNone bNone w F _ (argsT args i)
      unfold argsT
      rw [List.getElem?_eq_none (by omega)]
      exact .junk _
  refine wp_mono (h ⟨w, fun _ => False, fun _ => none⟩ F _ w hc) fun e a' w' ⟨s', ⟨hex, p, h1, h2⟩, _, hd, ρ, F', hi, hev⟩ => ?_
  obtain ⟨v, hv1, hv2⟩ := results_ok (P := P) hi hev h1
  have fin : a'.defers = [] ∧ ∃ v, (results fn a'.tmps).run P w' = .ok v w' ∧ ∃ v' F'', Ending.returned v = .returned v' ∧ Ext w w' ∧ (∀ g, F g → F'' g) ∧ (∀ g, F'' g → g < w'.heap.size) ∧ (∀ g, F'' g → F g ∨ w.heap.size ≤ g) ∧ PRep ρNone bNone w' F'' v' r := by
    refine ⟨hd, v, hv1, v, allF ρ s'.b F', rfl, ⟨hi.ext.os, hi.ext.tape, hi.ext.output, hi.ext.size, fun g hg => hi.ext.block g hg id⟩, fun g hg => .inl (hi.f0 g hg), ?_, ?_, ?_⟩
    · rintro g (hg | ⟨t, B, hb, hg⟩)
      · exact hi.flt g hg
      · exact ((hi.box t B hb).lt hg).1
    · rintro g (hg | ⟨t, B, hb, hg⟩)
      · exact (hi.fnew g hg).imp_right fun h => h.resolve_right id
      · exact .inr (((hi.box t B hb).lt hg).2.1.resolve_right id)
    · rw [← h2]
      exact hv2.asData hi
  cases e with
  | normal => exact fin
  | ret => exact fin
  | exit _ => exact hex.elim
  | goto _ => exact hex.elim
  | panic _ => exact hex.elim
  | outgrown => exact hex.elim

/-! ### States as lists -/
def lk : List (Nat × PV) → Nat → PV
  | [], _ => .junk
  | (j, p) :: l, i => if i = j then p else lk l i
def lkb : List (Nat × Box) → Nat → Option Box
  | [], _ => none
  | (j, p) :: l, i => if i = j then some p else lkb l i
def ins (l : List (Nat × PV)) (d : Nat) (p : PV) : List (Nat × PV) := (d, p) :: l
def insb : List (Nat × Box) → Nat → Box → List (Nat × Box)
  | [], d, p => [(d, p)]
  | (j, q) :: l, d, p => if d = j then (j, p) :: l else (j, q) :: insb l d p
/-- A state, slot by slot. -/
def St (l : List (Nat × PV)) (m : List (Nat × Box)) : PS := ⟨lk l, lkb m⟩
theorem lk_ins (d : Nat) (p : PV) (l : List (Nat × PV)) (i : Nat) : lk (ins l d p) i = if d = i then p else lk l i := by
  simp only [ins, lk]
  by_cases h : i = d
  · rw [if_pos h, if_pos h.symm]
  · rw [if_neg h, if_neg (Ne.symm h)]
theorem lkb_insb (d : Nat) (p : Box) : ∀ (l : List (Nat × Box)) (i : Nat), lkb (insb l d p) i = if i = d then some p else lkb l i
  | [], i => rfl
  | (j, q) :: l, i => by
    simp only [insb]
    split
    · rename_i h
      subst h
      simp only [lkb]
      by_cases h : i = d
      · rw [if_pos h, if_pos h]
      · rw [if_neg h, if_neg h, if_neg h]
    · rename_i h
      simp only [lkb, lkb_insb d p l i]
      by_cases h1 : i = j
      · subst h1
        rw [if_pos rfl, if_neg (Ne.symm h), if_pos rfl]
      · rw [if_neg h1, if_neg h1]
theorem upd_St (l : List (Nat × PV)) (m : List (Nat × Box)) (d : Nat) (r : PV) : (St l m).upd (some d) r none = St (ins l d r) m := by
  unfold St PS.upd
  congr 1
  funext i
  simp only [tupd, lk_ins, Option.some.injEq]
theorem upd_StB (l : List (Nat × PV)) (m : List (Nat × Box)) (d : Nat) (r : PV) (j : Nat) (B : Box) : (St l m).upd (some d) r (some (j, B)) = St (ins l d r) (insb m j B) := by
  unfold St PS.upd
  congr 1
  · funext i; simp only [tupd, lk_ins, Option.some.injEq]
  · funext i; simp only [bupd, lkb_insb]
theorem upd_StN (l : List (Nat × PV)) (m : List (Nat × Box)) (r : PV) (j : Nat) (B : Box) : (St l m).upd none r (some (j, B)) = St l (insb m j B) := by
  unfold St PS.upd
  congr 1
  · funext i; simp only [bupd, lkb_insb]
theorem upd_St0 (l : List (Nat × PV)) (m : List (Nat × Box)) (r : PV) : (St l m).upd none r none = St l m := rfl
theorem St_t (l : List (Nat × PV)) (m : List (Nat × Box)) (i : Nat) : (St l m).t i = lk l i := rfl
theorem St_b (l : List (Nat × PV)) (m : List (Nat × Box)) (i : Nat) : (St l m).b i = lkb m i := rfl
/-- The arguments in their slots. -/
def argL : Nat → List PV → List (Nat × PV)
  | _, [] => []
  | i, p :: ps => (i, p) :: argL (i + 1) ps
theorem lk_argL : ∀ (ps : List PV) (k i : Nat), lk (argL k ps) (k + i) = (ps[i]?).getD .junk
  | [], k, i => by simp [argL, lk]
  | p :: ps, k, 0 => by simp [argL, lk]
  | p :: ps, k, i + 1 => by
    simp only [argL, lk]
    rw [if_neg (by omega), show k + (i + 1) = k + 1 + i by omega, lk_argL ps (k + 1) i]
    simp
theorem start_St (args : List PV) : (⟨argsT args, bNone⟩ : PS) = St (argL 0 args) [] := by
  unfold St
  congr 1
  funext i
  have := lk_argL args 0 i
  rw [Nat.zero_add] at this
  rw [this]
  rfl
end
end Go.Proofs.Ytjeeclabnimbbaa

/- The pure machine: what may be forgotten; nil as a row; rows that are frozen. -/
namespace Go.Proofs.Ytjeeclabnimbbaa
open Go.RowKit

mutual
def refsIn (b : Nat → Option Box) : PV → Bool
  | .ptr t _ => (b t).isSome
  | .row t _ => (b t).isSome
  | .re t _ _ _ => (b t).isSome
  | .vw t _ _ _ => (b t).isSome
  | .ag cs => refsIns b cs
  | .tup cs => refsIns b cs
  | .fn _ ps qs => refsIns b ps && refsIns b qs
  | _ => true
def refsIns (b : Nat → Option Box) : List PV → Bool
  | [] => true
  | c :: cs => refsIn b c && refsIns b cs
end
theorem refsIns_get {b : Nat → Option Box} : ∀ {cs : List PV} (_ : refsIns b cs = true) {j : Nat} {c : PV}, cs[j]? = some c → refsIn b c = true
  | [], _, j, c, h => by simp at h
  | d :: cs, h, j, c, hj => by
    simp only [refsIns, Bool.and_eq_true] at h
    cases j with
    | zero => simp at hj; subst hj; exact h.1
    | succ j => simp at hj; exact refsIns_get h.2 hj
theorem refsIns_d (b : Nat → Option Box) : ∀ ds : List D, refsIns b (ds.map .d) = true
  | [] => rfl
  | d :: ds => by simp [refsIns, refsIn, refsIns_d b ds]

section
variable {P : Program} {ρ ρ' : Nat → Value} {b b' : Nat → Option Box} {w w' : World} {w0 : WM} {F F' F0 : Nat → Prop} {n : Nat} {Qs : Exit → PS → Prop} {c : Code}

theorem PRep.less {x : Value} {p : PV} (h : PRep ρ b w F x p) (hb : ∀ t B, b' t = some B → b t = some B) : refsIn b' p = true → PRep ρ b' w F x p := by
  have look : ∀ {t : Nat} {B : Box}, b t = some B → (b' t).isSome = true → b' t = some B := by
    intro t B h h2
    rw [Option.isSome_iff_exists] at h2
    obtain ⟨B', h2⟩ := h2
    have := hb t B' h2
    rw [h] at this
    injection this with this
    rw [h2, this]
  induction h with
  | junk x => exact fun _ => .junk x
  | d x d h => exact fun _ => .d x d h
  | ag xs cs hl h1 hr ih => exact fun hc => .ag xs cs hl h1 (fun j x c h2 h3 => ih j x c h2 h3 (refsIns_get (by simpa [refsIn] using hc) h3))
  | tup xs cs hl hr ih => exact fun hc => .tup xs cs hl (fun j x c h2 h3 => ih j x c h2 h3 (refsIns_get (by simpa [refsIn] using hc) h3))
  | ptr t off g ty cs hb hρ => exact fun hc => .ptr t off g ty cs (look hb (by simpa [refsIn] using hc)) hρ
  | row t n A c e k es hb hn hcc hA hρ => exact fun hc => .row t n A c e k es (look hb (by simpa [refsIn] using hc)) hn hcc hA hρ
  | re t n i off a e k es hb hn hi hρ => exact fun hc => .re t n i off a e k es (look hb (by simpa [refsIn] using hc)) hn hi hρ
  | vw t n lo hi A m c e k es hb hn hl hh hm hρ => exact fun hc => .vw t n lo hi A m c e k es (look hb (by simpa [refsIn] using hc)) hn hl hh hm hρ
  | fe a cs us hF hcell hrep => exact fun _ => .fe a cs us hF hcell hrep
  | fn f xs ys ps qs hl hr hl2 hr2 ih ih2 =>
    intro hc
    simp only [refsIn, Bool.and_eq_true] at hc
    exact .fn f xs ys ps qs hl (fun j x c h2 h3 => ih j x c h2 h3 (refsIns_get hc.1 h3)) hl2 (fun j x c h2 h3 => ih2 j x c h2 h3 (refsIns_get hc.2 h3))
def boxRefs (b : Nat → Option Box) : Box → Bool
  | .st _ cs => refsIns b cs
  | .rw _ _ _ => true
/-- Slots and boxes may be forgotten. -/
theorem Conc.less {s s' : PS} {a : Act} (h : Conc n w0 F0 s a w) (ht : ∀ i, s'.t i = .junk ∨ (s'.t i = s.t i ∧ refsIn s'.b (s.t i) = true)) (hb : ∀ t B, s'.b t = some B → s.b t = some B ∧ boxRefs s'.b B = true) : Conc n w0 F0 s' a w := by
  obtain ⟨h1, h2, ρ, F, hi, hev⟩ := h
  have hb1 : ∀ t B, s'.b t = some B → s.b t = some B := fun t B h => (hb t B h).1
  refine ⟨h1, h2, ρ, F, ⟨hi.ext, hi.f0, hi.flt, hi.fnew, fun t B h => ?_, fun t t' B B' g k1 k2 => hi.dist t t' B B' g (hb1 _ _ k1) (hb1 _ _ k2), hi.reg_less fun t => by cases ht : s'.b t with | none => exact .inl rfl | some B => exact .inr (hb1 t B ht).symm⟩, fun i => ?_⟩
  · have h3 := (hb t B h).2
    cases hi.box t B (hb1 t B h) with
    | st ty cs g xs hρ hg hF hh hl h1 hr => exact .st ty cs g xs hρ hg hF hh hl h1 (fun j x c k1 k2 => (hr j x c k1 k2).less hb1 (refsIns_get (by simpa [boxRefs] using h3) k2))
    | rw e k es xs hk0 ho hF hk hl hr hown => exact .rw e k es xs hk0 ho hF hk hl hr hown
    | gn e k es hρ => exact .gn e k es hρ
  · rcases ht i with h | ⟨h, h3⟩
    · rw [h]; exact .junk _
    · rw [h]; exact (hev i).less hb1 h3
def keepL {α : Type} (ks : List Nat) : List (Nat × α) → List (Nat × α)
  | [] => []
  | (i, p) :: l => if i ∈ ks then (i, p) :: keepL ks l else keepL ks l
def refsL (b : Nat → Option Box) : List (Nat × PV) → Bool
  | [] => true
  | (_, p) :: l => refsIn b p && refsL b l
def boxesL (b : Nat → Option Box) : List (Nat × Box) → Bool
  | [] => true
  | (_, B) :: l => boxRefs b B && boxesL b l
/-- These slots, in this order. -/
def keepS (ks : List Nat) (l : List (Nat × PV)) : List (Nat × PV) := ks.map fun i => (i, lk l i)
theorem lk_keep : ∀ (ks : List Nat) (l : List (Nat × PV)) (i : Nat), (i ∈ ks → lk (keepS ks l) i = lk l i) ∧ (i ∉ ks → lk (keepS ks l) i = .junk)
  | [], l, i => ⟨fun h => absurd h List.not_mem_nil, fun _ => rfl⟩
  | k :: ks, l, i => by
    obtain ⟨h1, h2⟩ := lk_keep ks l i
    unfold keepS at h1 h2 ⊢
    simp only [List.map_cons, lk]
    by_cases h : i = k
    · subst h
      simp
    · rw [if_neg h]
      exact ⟨fun hm => h1 ((List.mem_cons.1 hm).resolve_left h), fun hm => h2 fun e => hm (List.mem_cons_of_mem _ e)⟩
theorem lkb_keep (ks : List Nat) : ∀ (l : List (Nat × Box)) (i : Nat) (B : Box), lkb (keepL ks l) i = some B → lkb l i = some B
  | [], i, B, h => by cases h
  | (j, p) :: l, i, B, h => by
    simp only [keepL] at h
    split at h
    · rename_i hj
      simp only [lkb] at h ⊢
      split at h
      · rename_i hij; rw [if_pos hij]; exact h
      · rename_i hij; rw [if_neg hij]; exact lkb_keep ks l i B h
    · rename_i hj
      simp only [lkb]
      by_cases hij : i = j
      · subst hij
        exfalso
        have : ∀ (l : List (Nat × Box)), lkb (keepL ks l) i = none := by
          intro l
          induction l with
          | nil => rfl
          | cons x l ih =>
            obtain ⟨j, q⟩ := x
            simp only [keepL]
            split
            · rename_i hj2
              simp only [lkb]
              rw [if_neg (fun (e : i = j) => hj (e ▸ hj2))]
              exact ih
            · exact ih
        rw [this] at h
        cases h
      · rw [if_neg hij]; exact lkb_keep ks l i B h
theorem refsL_get {b : Nat → Option Box} : ∀ {l : List (Nat × PV)} (_ : refsL b l = true) (i : Nat), refsIn b (lk l i) = true
  | [], _, i => rfl
  | (j, p) :: l, h, i => by
    simp only [refsL, Bool.and_eq_true] at h
    simp only [lk]
    split
    · exact h.1
    · exact refsL_get h.2 i
theorem boxesL_get {b : Nat → Option Box} : ∀ {l : List (Nat × Box)} (_ : boxesL b l = true) (i : Nat) (B : Box), lkb l i = some B → boxRefs b B = true
  | [], _, i, B, h => by cases h
  | (j, p) :: l, h, i, B, hB => by
    simp only [boxesL, Bool.and_eq_true] at h
    simp only [lkb] at hB
    split at hB
    · injection hB with hB; subst hB; exact h.1
    · exact boxesL_get h.2 i B hB
/-- Keep these slots and boxes. -/
theorem conc_keep (ks bs : List Nat) {l : List (Nat × PV)} {m : List (Nat × Box)} {a : Act} (h1 : refsL (lkb (keepL bs m)) (keepS ks l) = true) (h2 : boxesL (lkb (keepL bs m)) (keepL bs m) = true) (h : Conc n w0 F0 (St l m) a w) : Conc n w0 F0 (St (keepS ks l) (keepL bs m)) a w := by
  refine h.less (fun i => ?_) (fun t B hB => ⟨lkb_keep bs m t B hB, boxesL_get h2 t B hB⟩)
  by_cases hi : i ∈ ks
  · have := (lk_keep ks l i).1 hi
    refine .inr ⟨this, ?_⟩
    have hr := refsL_get h1 i
    rw [this] at hr
    exact hr
  · exact .inl ((lk_keep ks l i).2 hi)
theorem pwp_keep (ks bs : List Nat) {l : List (Nat × PV)} {m : List (Nat × Box)} (h1 : refsL (lkb (keepL bs m)) (keepS ks l) = true) (h2 : boxesL (lkb (keepL bs m)) (keepL bs m) = true) (h : PWP P n c Qs (St (keepS ks l) (keepL bs m))) : PWP P n c Qs (St l m) :=
  fun w0 F0 a w hc => h w0 F0 a w (conc_keep ks bs h1 h2 hc)

/-- Only these slots are read later: the others are forgotten. -/
theorem pwp_live (ks : List Nat) {l : List (Nat × PV)} {m : List (Nat × Box)} (h : PWP P n c Qs (St (keepS ks l) m)) : PWP P n c Qs (St l m) := by
  intro w0 F0 a w hc
  refine h w0 F0 a w ?_
  obtain ⟨h1, h2, ρ, F, hi, hp⟩ := hc
  refine ⟨h1, h2, ρ, F, hi, fun i => ?_⟩
  by_cases hm : i ∈ ks
  · have := (lk_keep ks l i).1 hm
    show PRep ρ _ w F _ (lk (keepS ks l) i)
    rw [this]
    exact hp i
  · have := (lk_keep ks l i).2 hm
    show PRep ρ _ w F _ (lk (keepS ks l) i)
    rw [this]
    exact .junk _

/-- Slots and boxes are forgotten in a state that is to be met. -/
structure Kept (ks bs : List Nat) (l : List (Nat × PV)) (m : List (Nat × Box)) : Prop where
  h1 : refsL (lkb (keepL bs m)) (keepS ks l) = true
  h2 : boxesL (lkb (keepL bs m)) (keepL bs m) = true
/-! ### The rules again, what follows under a name -/
variable {s : PS}
theorem pwp_seq_k {x y : Code} (h : ∀ K : Exit → PS → Prop, (∀ s, PWP P n y Qs s → K .normal s) → True → (∀ e s, e ≠ .normal → Qs e s → K e s) → PWP P n x K s) : PWP P n (.seq x y) Qs s :=
  pwp_seq (h _ (fun _ h => h) trivial (fun e s he h => by cases e <;> first | exact absurd rfl he | exact h))
theorem pwp_block_k {id : Nat} {x : Code} (h : ∀ K : Exit → PS → Prop, (∀ s, Qs .normal s → K .normal s) → (∀ s, Qs .normal s → K (.exit id) s) → (∀ e s, e ≠ .normal → e ≠ .exit id → Qs e s → K e s) → PWP P n x K s) : PWP P n (.block id x) Qs s :=
  pwp_block (h _ (fun _ h => h) (fun _ h => by simpa [inBlockP] using h) (fun e s he hi h => by
    cases e with
    | normal => exact absurd rfl he
    | exit id' =>
      simp only [inBlockP]
      rw [if_neg (fun e => hi (by rw [e]))]
      exact h
    | _ => exact h))
theorem pwp_loopW {ks bs : List Nat} {x : Code} (I : PS → Nat → Prop) (m0 : Nat) (h0 : I s m0) (round : ∀ s m, I s m → PWP P n x (thenP (fun s' => ∃ s'', (∀ n w0 F0 a w, Conc n w0 F0 s' a w → Conc n w0 F0 s'' a w) ∧ ∃ m', I s'' m' ∧ m' < m) Qs) s) : PWP P n (.loop x) Qs s := by
  intro w0 F0 a w hc
  refine wp_loop_ghost (fun m a' w' => ∃ s', I s' m ∧ Conc n w0 F0 s' a' w') m0 ⟨s, h0, hc⟩ (fun m a' w' ⟨s', h1, h2⟩ => ?_)
  refine wp_mono (round s' m h1 w0 F0 a' w' h2) fun e a2 w2 ⟨s2, h3, h4⟩ => ?_
  cases e with
  | normal =>
    obtain ⟨s3, h5, m', h6, h7⟩ := h3
    exact ⟨m', h7, s3, h6, h5 _ _ _ _ _ h4⟩
  | _ => exact ⟨s2, h3, h4⟩
theorem pwp_loop_k (ks bs : List Nat) {x : Code} (I : List (Nat × PV) → List (Nat × Box) → Nat → Prop) {l : List (Nat × PV)} {m : List (Nat × Box)} (m0 : Nat) (hk : Kept ks bs l m) (h0 : I (keepS ks l) (keepL bs m) m0)
    (round : ∀ l m c, I l m c → ∀ K : Exit → PS → Prop, (∀ l' m' c', Kept ks bs l' m' → I (keepS ks l') (keepL bs m') c' → c' < c → K .normal (St l' m')) → True → (∀ e s, e ≠ .normal → Qs e s → K e s) → PWP P n x K (St l m)) : PWP P n (.loop x) Qs (St l m) := by
  refine pwp_keep ks bs hk.h1 hk.h2 ?_
  refine fun w0 F0 a w hc => ?_
  refine pwp_loopW (fun s c => ∃ l m, s = St l m ∧ I l m c) (ks := ks) (bs := bs) m0 ⟨_, _, rfl, h0⟩ ?_ w0 F0 a w hc
  rintro s c ⟨l, m, rfl, hI⟩
  refine round l m c hI _ (fun l' m' c' hk' hI' hlt => ?_) trivial (fun e s he h => by cases e <;> first | exact absurd rfl he | exact h)
  exact ⟨St (keepS ks l') (keepL bs m'), fun n w0 F0 a w h => conc_keep ks bs hk'.h1 hk'.h2 h, c', ⟨_, _, rfl, hI'⟩, hlt⟩
theorem pwp_condT {cd : Operand} {x y : Code} (ht : asB (ev s cd) = some true) (h : PWP P n x Qs s) : PWP P n (.cond cd x y) Qs s := pwp_cond true ht h
theorem pwp_condF {cd : Operand} {x y : Code} (ht : asB (ev s cd) = some false) (h : PWP P n y Qs s) : PWP P n (.cond cd x y) Qs s := pwp_cond false ht h
/-- A nil slice in a slot, as a row of the call's own. -/
theorem pwp_nilrow (i e k : Nat) {l : List (Nat × PV)} {m : List (Nat × Box)} (ht : lk l i = .d (.v (.slice none 0 0))) (hb : lkb m i = none) (hi0 : i < 1000000) (hk : 0 < k) (h : PWP P n c Qs (St (ins l i (.row i 0)) (insb m i (.rw e k [])))) : PWP P n c Qs (St l m) := by
  refine fun w0 F0 a w hc => h w0 F0 a w ?_
  obtain ⟨h1, h2, ρ, F, hi, hev⟩ := hc
  have hx := (hev i)
  rw [show (St l m).t i = lk l i from rfl, ht] at hx
  obtain ⟨hx, _⟩ := hx.vv
  have hnew := newRw (P := default) (t := i) (e := e) (k := k) (es := []) (xs := []) (v := .slice none 0 0) (w' := w) hi hi0 (show (St l m).b i = none from hb) hk (Ext.refl w) (fun g hg => by cases hg) (World.ownsRow_nil w _ e k) (by simp) rfl (by simp)
  obtain ⟨v, w', ρ', hok, k1, k2, k3⟩ := hnew
  injection hok with e1 e2
  subst e1 e2
  rw [← upd_StB]
  refine ⟨h1, h2, ρ', F, k1, fun j => ?_⟩
  by_cases hj : i = j
  · subst hj
    rw [hx]
    simpa [PS.upd, tupd] using k3
  · have : ((St l m).upd (some i) (.row i 0) (some (i, .rw e k []))).t j = (St l m).t j := by simp [PS.upd, tupd, hj]
    rw [this]
    exact (hev j).mono k2

/-! ### A row is frozen: from here on it is data -/
end
mutual
def frz (t : Nat) (es : List (List D)) : PV → PV
  | .row t' m => if t' = t then (if m = es.length then .d (.sl es) else .junk) else .row t' m
  | .re t' m i o => if t' = t then .junk else .re t' m i o
  | .vw t' m i o => if t' = t then .junk else .vw t' m i o
  | .ag cs => .ag (frzs t es cs)
  | .tup cs => .tup (frzs t es cs)
  | .fn f ps qs => .fn f (frzs t es ps) (frzs t es qs)
  | p => p
def frzs (t : Nat) (es : List (List D)) : List PV → List PV
  | [] => []
  | c :: cs => frz t es c :: frzs t es cs
end
def frzBox (t : Nat) (es : List (List D)) : Box → Box
  | .st ty cs => .st ty (frzs t es cs)
  | B => B
def frzL (t : Nat) (es : List (List D)) : List (Nat × PV) → List (Nat × PV)
  | [] => []
  | (i, p) :: l => (i, frz t es p) :: frzL t es l
def frzM (t : Nat) (es : List (List D)) : List (Nat × Box) → List (Nat × Box)
  | [] => []
  | (i, B) :: l => if i = t then frzM t es l else (i, frzBox t es B) :: frzM t es l
section
variable {P : Program} {ρ ρ' : Nat → Value} {b b' : Nat → Option Box} {w w' : World} {w0 : WM} {F F' F0 : Nat → Prop} {n : Nat} {Qs : Exit → PS → Prop} {c : Code}
theorem frzs_len (t : Nat) (es : List (List D)) : ∀ cs : List PV, (frzs t es cs).length = cs.length
  | [] => rfl
  | c :: cs => by simp [frzs, frzs_len t es cs]
theorem frzs_get (t : Nat) (es : List (List D)) : ∀ (cs : List PV) (j : Nat) (c : PV), (frzs t es cs)[j]? = some c → ∃ d, cs[j]? = some d ∧ c = frz t es d
  | [], j, c, h => by simp [frzs] at h
  | d :: cs, j, c, h => by
    simp only [frzs] at h
    cases j with
    | zero => simp at h; exact ⟨d, rfl, h.symm⟩
    | succ j => simp at h; simpa using frzs_get t es cs j c h
theorem lk_frz (t : Nat) (es : List (List D)) : ∀ (l : List (Nat × PV)) (i : Nat), lk (frzL t es l) i = frz t es (lk l i)
  | [], i => rfl
  | (j, p) :: l, i => by
    simp only [frzL, lk]
    split
    · rfl
    · exact lk_frz t es l i
theorem lkb_frz (t : Nat) (es : List (List D)) : ∀ (m : List (Nat × Box)) (i : Nat), lkb (frzM t es m) i = if i = t then none else (lkb m i).map (frzBox t es)
  | [], i => by simp [frzM, lkb]
  | (j, B) :: m, i => by
    simp only [frzM]
    split
    · rename_i hj
      rw [lkb_frz t es m i]
      simp only [lkb]
      by_cases hi : i = t
      · rw [if_pos hi, if_pos hi]
      · rw [if_neg hi, if_neg hi, if_neg (by omega)]
    · rename_i hj
      simp only [lkb, lkb_frz t es m i]
      by_cases hij : i = j
      · subst hij; simp [hj]
      · rw [if_neg hij, if_neg hij]
theorem PRep.frz {x : Value} {p : PV} {t e k : Nat} {es : List (List D)} (hi : Inv w0 F0 ρ b w F) (hb : b t = some (.rw e k es)) (hb' : ∀ i, b' i = if i = t then none else (b i).map (frzBox t es)) (h : PRep ρ b w F x p) :
    PRep ρ b' w (fun g => F g ∨ blk (ρ t) = some g) x (Go.Proofs.Ytjeeclabnimbbaa.frz t es p) := by
  have hF : ∀ g, F g → (F g ∨ blk (ρ t) = some g) := fun g h => .inl h
  induction h with
  | junk x => exact .junk x
  | d x d h => exact .d x d (h.mono hF (fun _ _ => rfl))
  | ag xs cs hl h1 hr ih =>
    refine .ag xs _ (by rw [frzs_len]; exact hl) h1 (fun j x c h2 h3 => ?_)
    obtain ⟨d, h4, rfl⟩ := frzs_get t es cs j c h3
    exact ih j x d h2 h4
  | tup xs cs hl hr ih =>
    refine .tup xs _ (by rw [frzs_len]; exact hl) (fun j x c h2 h3 => ?_)
    obtain ⟨d, h4, rfl⟩ := frzs_get t es cs j c h3
    exact ih j x d h2 h4
  | ptr t' off g ty cs hb2 hρ =>
    have : t' ≠ t := fun e => by rw [e, hb] at hb2; cases hb2
    exact .ptr t' off g ty _ (by rw [hb', if_neg this, hb2]; rfl) hρ
  | row t' m A cc e' k' es' hb2 hn hc hA hρ =>
    simp only [Go.Proofs.Ytjeeclabnimbbaa.frz]
    by_cases ht : t' = t
    · subst ht
      rw [if_pos rfl]
      rw [hb] at hb2
      injection hb2 with hb2
      injection hb2 with e1 e2 e3
      subst e1 e2 e3
      split
      · rename_i hm
        have := row_data hi hb (.row t' m A cc e k es hb hn hc hA hρ) hm.symm
        refine .d _ _ ?_
        have hr := asSl_reads hi (.row t' m A cc e k es hb hn hc hA hρ) (show asSl b (.row t' m) = some es by simp [asSl, hb, hm])
        obtain ⟨A2, c2, k2, e4, hc2, hm2, hk2, hA2, hcell2⟩ := hr
        injection e4 with e5 e6 e7
        subst e5 e7
        cases A with
        | none =>
          obtain ⟨rfl, rfl⟩ := hA2 rfl
          simp at hm
          subst hm
          exact .sl none 0 0 0 [] (fun _ => undef) rfl (Nat.le_refl _) (by simp [maxLen]) (by simp) (by omega) (fun _ => rfl) (by simp) (by simp)
        | some a =>
          have hcell2 := hcell2 a rfl
          refine .sl (some a) m cc k2 es (fun j => (w.cell? (a.add j)).getD undef) hm hc hm2 hk2 (fun _ => ⟨a, rfl, .inr (by rw [hρ hm.symm]; rfl)⟩) (fun h => by cases h) (fun a' j d ha' hj => ?_) (fun j d hj => ?_)
          · injection ha' with ha'
            subst ha'
            obtain ⟨u, h1, _⟩ := hcell2 j d hj
            rw [h1]; rfl
          · obtain ⟨u, h1, h2⟩ := hcell2 j d hj
            rw [h1]
            exact h2.mono hF (fun _ _ => rfl)
      · exact .junk _
    · rw [if_neg ht]
      exact .row t' m A cc e' k' es' (by rw [hb', if_neg ht, hb2]; rfl) hn hc hA hρ
  | re t' m i o a e' k' es' hb2 hn hi' hρ =>
    simp only [Go.Proofs.Ytjeeclabnimbbaa.frz]
    by_cases ht : t' = t
    · rw [if_pos ht]; exact .junk _
    · rw [if_neg ht]
      exact .re t' m i o a e' k' es' (by rw [hb', if_neg ht, hb2]; rfl) hn hi' hρ
  | vw t' m lo hi' A mm cc e' k' es' hb2 hn hl hh hm hρ =>
    simp only [Go.Proofs.Ytjeeclabnimbbaa.frz]
    by_cases ht : t' = t
    · rw [if_pos ht]; exact .junk _
    · rw [if_neg ht]
      exact .vw t' m lo hi' A mm cc e' k' es' (by rw [hb', if_neg ht, hb2]; rfl) hn hl hh hm hρ
  | fe a cs us hF' hcell hrep => exact .fe a cs us (.inl hF') hcell (fun j d h => (hrep j d h).mono hF (fun _ _ => rfl))
  | fn f xs ys ps qs hl hr hl2 hr2 ih ih2 =>
    refine .fn f xs ys _ _ (by rw [frzs_len]; exact hl) (fun j x c h2 h3 => ?_) (by rw [frzs_len]; exact hl2) (fun j x c h2 h3 => ?_)
    · obtain ⟨d, h4, rfl⟩ := frzs_get t es ps j c h3
      exact ih j x d h2 h4
    · obtain ⟨d, h4, rfl⟩ := frzs_get t es qs j c h3
      exact ih2 j x d h2 h4
theorem Inv.reg_frz {t : Nat} {es : List (List D)} (hi : Inv w0 F0 ρ b w F) (hb' : ∀ i, b' i = if i = t then none else (b i).map (frzBox t es)) : ∀ i q, w0.R i = some q → 1000000 ≤ i ∧ RegAt ρ b' i q := by
  intro i q h
  obtain ⟨h1, h2⟩ := hi.reg i q h
  refine ⟨h1, ?_⟩
  by_cases hit : i = t
  · exact h2.less (.inl (by rw [hb', if_pos hit])) 
  · refine h2.mono (fun e => by rw [hb', if_neg hit, e]; rfl) (fun ty cs e => ⟨⟨ty, _, by rw [hb', if_neg hit, e]; rfl⟩, rfl⟩) (fun e k es' he => ⟨e, es', by rw [hb', if_neg hit, he]; rfl, Nat.le_refl _, fun _ => rfl⟩)
theorem PRep.dd {x : Value} {d : D} (h : PRep ρ b w F x (.d d)) : DRep w F x d := by
  cases h with
  | d _ _ h => exact h
theorem conc_freeze (t : Nat) {e k : Nat} {es : List (List D)} {l : List (Nat × PV)} {m : List (Nat × Box)} {a : Act} (hb : lkb m t = some (.rw e k es)) (h : Conc n w0 F0 (St l m) a w) : Conc n w0 F0 (St (frzL t es l) (frzM t es m)) a w := by
  obtain ⟨h1, h2, ρ, F, hi, hev⟩ := h
  have hb0 : (St l m).b t = some (.rw e k es) := hb
  have hb' : ∀ i, (St (frzL t es l) (frzM t es m)).b i = if i = t then none else ((St l m).b i).map (frzBox t es) := fun i => lkb_frz t es m i
  have hbt := (hi.box t _ hb0)
  refine ⟨h1, h2, ρ, fun g => F g ∨ blk (ρ t) = some g, ⟨hi.ext, fun g hg => .inl (hi.f0 g hg), ?_, ?_, fun t' B h => ?_, fun t1 t2 B1 B2 g k1 k2 hne => ?_, hi.reg_frz hb'⟩, fun i => ?_⟩
  · rintro g (hg | hg)
    · exact hi.flt g hg
    · exact (hbt.lt hg).1
  · rintro g (hg | hg)
    · exact hi.fnew g hg
    · exact .inr (hbt.lt hg).2.1
  · rw [hb'] at h
    split at h
    · cases h
    · rename_i ht
      rw [Option.map_eq_some_iff] at h
      obtain ⟨B0, hB0, rfl⟩ := h
      have hnF : ∀ g, blk (ρ t') = some g → ¬ (F g ∨ blk (ρ t) = some g) := by
        rintro g hg (h | h)
        · exact ((hi.box t' B0 hB0).lt hg).2.2 h
        · exact hi.dist t' t B0 _ g hB0 hb0 ht hg h
      cases hi.box t' B0 hB0 with
      | st ty cs g xs hρ hg hF hh hl h1 hr =>
        refine .st ty _ g xs hρ hg (hnF g (by rw [hρ]; rfl)) hh (by rw [frzs_len]; exact hl) h1 (fun j x c k1 k2 => ?_)
        obtain ⟨d, h4, rfl⟩ := frzs_get t es cs j c k2
        exact (hr j x d k1 h4).frz hi hb0 hb'
      | rw e' k' es' xs hk0 ho hF hk hl hr hown => exact .rw e' k' es' xs hk0 ho hnF hk hl (fun j x d k1 k2 => (hr j x d k1 k2).mono (fun g h => .inl h) (fun _ _ => rfl)) hown
      | gn e' k' es' hρ => exact .gn e' k' es' hρ
  · rw [hb'] at k1 k2
    split at k1
    · cases k1
    · split at k2
      · cases k2
      · rw [Option.map_eq_some_iff] at k1 k2
        obtain ⟨B1', k1, _⟩ := k1
        obtain ⟨B2', k2, _⟩ := k2
        exact hi.dist t1 t2 B1' B2' g k1 k2 hne
  · rw [show (St (frzL t es l) (frzM t es m)).t i = frz t es ((St l m).t i) from lk_frz t es l i]
    exact (hev i).frz hi hb0 hb'
theorem pwp_freeze (t : Nat) {e k : Nat} {es : List (List D)} {l : List (Nat × PV)} {m : List (Nat × Box)} (hb : lkb m t = some (.rw e k es)) (h : PWP P n c Qs (St (frzL t es l) (frzM t es m))) : PWP P n c Qs (St l m) :=
  fun w0 F0 a w hc => h w0 F0 a w (conc_freeze t hb hc)
/-- A nil slice in a slot, as data. -/
theorem conc_nil (i : Nat) {l : List (Nat × PV)} {m : List (Nat × Box)} {a : Act} (ht : lk l i = .d (.v (.slice none 0 0))) (h : Conc n w0 F0 (St l m) a w) : Conc n w0 F0 (St (ins l i (.d (.sl []))) m) a w := by
  obtain ⟨h1, h2, ρ, F, hi, hev⟩ := h
  refine ⟨h1, h2, ρ, F, hi, fun j => ?_⟩
  rw [← upd_St]
  by_cases hj : i = j
  · subst hj
    have := hev i
    rw [show (St l m).t i = lk l i from rfl, ht] at this
    have h3 : DRep w F (a.tmps.getD i undef) (.v (.slice none 0 0)) := this.dd
    have h4 : ((St l m).upd (some i) (.d (.sl [])) none).t i = .d (.sl []) := by simp [PS.upd, tupd]
    rw [h4]
    exact .d _ _ h3.nrm
  · have : ((St l m).upd (some i) (.d (.sl [])) none).t j = (St l m).t j := by simp [PS.upd, tupd, hj]
    rw [this]
    exact hev j
theorem pwp_nil (i : Nat) {l : List (Nat × PV)} {m : List (Nat × Box)} (ht : lk l i = .d (.v (.slice none 0 0))) (h : PWP P n c Qs (St (ins l i (.d (.sl []))) m)) : PWP P n c Qs (St l m) :=
  fun w0 F0 a w hc => h w0 F0 a w (conc_nil i ht hc)
/-- A loop: what is kept at its head, and what each round makes of it. -/
theorem pwp_loop_i (ks bs : List Nat) {x : Code} (I : List (Nat × PV) → List (Nat × Box) → List (Nat × PV) → List (Nat × Box) → Nat → Prop) {l : List (Nat × PV)} {m : List (Nat × Box)} (m0 : Nat) (hk : Kept ks bs l m) (h0 : I (keepS ks l) (keepL bs m) (keepS ks l) (keepL bs m) m0)
    (round : ∀ l1 m1 c, I (keepS ks l) (keepL bs m) l1 m1 c → ∀ K : Exit → PS → Prop, (∀ l' m' c', Kept ks bs l' m' → I (keepS ks l) (keepL bs m) (keepS ks l') (keepL bs m') c' → c' < c → K .normal (St l' m')) → True → (∀ e s, e ≠ .normal → Qs e s → K e s) → PWP P n x K (St l1 m1)) : PWP P n (.loop x) Qs (St l m) :=
  pwp_loop_k ks bs (I (keepS ks l) (keepL bs m)) m0 hk h0 round
/-- Where ways meet. -/
theorem pwp_cut (ks bs : List Nat) {x y : Code} (I : List (Nat × PV) → List (Nat × Box) → List (Nat × PV) → List (Nat × Box) → Prop) {l : List (Nat × PV)} {m : List (Nat × Box)} (hx : ∀ K : Exit → PS → Prop, (∀ l' m', Kept ks bs l' m' → I l m (keepS ks l') (keepL bs m') → K .normal (St l' m')) → True → (∀ e s, e ≠ .normal → Qs e s → K e s) → PWP P n x K (St l m))
    (hy : ∀ l' m', I l m l' m' → PWP P n y Qs (St l' m')) : PWP P n (.seq x y) Qs (St l m) := by
  refine pwp_seq ?_
  refine hx _ (fun l' m' hk hI => ?_) trivial (fun e s he h => by cases e <;> first | exact absurd rfl he | exact h)
  exact pwp_keep ks bs hk.h1 hk.h2 (hy _ _ hI)
/-- A slice's length is a number. -/
theorem len_le {x : Value} {es : List (List D)} (h : DRep w F x (.sl es)) : es.length ≤ 9223372036854775807 := by
  cases h with
  | sl A n cc k _ us hn hc hm hk hA hA0 hcell hrep => unfold maxLen at hm; omega
theorem pwp_len (i : Nat) {es : List (List D)} {l : List (Nat × PV)} {m : List (Nat × Box)} (ht : lk l i = .d (.sl es)) (h : es.length ≤ 9223372036854775807 → PWP P n c Qs (St l m)) : PWP P n c Qs (St l m) := by
  intro w0 F0 a w hc
  obtain ⟨_, _, ρ, F, hi, hev⟩ := id hc
  have := hev i
  rw [show (St l m).t i = lk l i from rfl, ht] at this
  exact h (len_le this.dd) w0 F0 a w hc
theorem pwp_lenA (i j : Nat) {es : List (List D)} {cs : List PV} {l : List (Nat × PV)} {m : List (Nat × Box)} (ht : lk l i = .ag cs) (hj : cs[j]? = some (.d (.sl es))) (h : es.length ≤ 9223372036854775807 → PWP P n c Qs (St l m)) : PWP P n c Qs (St l m) := by
  intro w0 F0 a w hc
  obtain ⟨_, _, ρ, F, hi, hev⟩ := id hc
  have h2 := hev i
  rw [show (St l m).t i = lk l i from rfl, ht] at h2
  generalize a.tmps.getD i undef = v at h2
  cases h2 with
  | ag xs _ hl h1 hr =>
    have hlt : j < xs.size := by rw [hl]; exact (List.getElem?_eq_some_iff.1 hj).1
    have := hr j xs[j] _ (by simp [hlt]) hj
    exact h (len_le this.dd) w0 F0 a w hc
end
end Go.Proofs.Ytjeeclabnimbbaa

/- The seat's types: cells, bytes, zeros, fields. -/
namespace Go.Proofs.Ytjeeclabnimbbaa
open Go.RowKit

theorem Try.tinf2 : tinf Try.prog 2 = some ⟨1, 8, false, [.int .i64 0]⟩ := by kernel_rfl
theorem Try.tinf3 : tinf Try.prog 3 = some ⟨1, 8, false, [.int .i64 0]⟩ := by kernel_rfl
theorem Try.tinf4 : tinf Try.prog 4 = some ⟨1, 1, false, [.bool false]⟩ := by kernel_rfl
theorem Try.tinf5 : tinf Try.prog 5 = some ⟨1, 1, false, [.int .u8 0]⟩ := by kernel_rfl
theorem Try.tinf9 : tinf Try.prog 9 = some ⟨1, 16, false, [.string ⟨#[]⟩]⟩ := by kernel_rfl
theorem Try.tinf12 : tinf Try.prog 12 = some ⟨1, 8, false, [.int .u64 0]⟩ := by kernel_rfl
theorem Try.tinf21 : tinf Try.prog 21 = some ⟨1, 4, false, [.int .i32 0]⟩ := by kernel_rfl
theorem Try.tinf22 : tinf Try.prog 22 = some ⟨1, 24, false, [.slice none 0 0]⟩ := by kernel_rfl
theorem Try.tinf24 : tinf Try.prog 24 = some ⟨1, 24, false, [.slice none 0 0]⟩ := by kernel_rfl
theorem Try.tinf25 : tinf Try.prog 25 = some ⟨1, 24, false, [.slice none 0 0]⟩ := by kernel_rfl
theorem Try.tinf26 : tinf Try.prog 26 = some ⟨2, 48, true, [.slice none 0 0, .slice none 0 0]⟩ := by kernel_rfl
theorem Try.flds26 : fldsO Try.prog 26 = some [(0, 1, false), (1, 1, false)] := by kernel_rfl
theorem Try.tinf27 : tinf Try.prog 27 = some ⟨2, 48, true, [.slice none 0 0, .slice none 0 0]⟩ := by kernel_rfl
theorem Try.flds27 : fldsO Try.prog 27 = some [(0, 1, false), (1, 1, false)] := by kernel_rfl
theorem Try.tinf28 : tinf Try.prog 28 = some ⟨1, 24, false, [.slice none 0 0]⟩ := by kernel_rfl
theorem Try.tinf29 : tinf Try.prog 29 = some ⟨1, 24, false, [.slice none 0 0]⟩ := by kernel_rfl
theorem Try.tinf30 : tinf Try.prog 30 = some ⟨1, 24, false, [.slice none 0 0]⟩ := by kernel_rfl
theorem Try.tinf31 : tinf Try.prog 31 = some ⟨1, 24, false, [.slice none 0 0]⟩ := by kernel_rfl
theorem Try.tinf32 : tinf Try.prog 32 = some ⟨1, 24, false, [.slice none 0 0]⟩ := by kernel_rfl
theorem Try.tinf33 : tinf Try.prog 33 = some ⟨10, 192, true, [.slice none 0 0, .slice none 0 0, .slice none 0 0, .slice none 0 0, .slice none 0 0, .slice none 0 0, .slice none 0 0, .int .i64 0, .int .i64 0, .int .i64 0]⟩ := by kernel_rfl
theorem Try.flds33 : fldsO Try.prog 33 = some [(0, 2, true), (2, 1, false), (3, 1, false), (4, 1, false), (5, 1, false), (6, 1, false), (7, 1, false), (8, 1, false), (9, 1, false)] := by kernel_rfl
theorem Try.tinf34 : tinf Try.prog 34 = some ⟨10, 192, true, [.slice none 0 0, .slice none 0 0, .slice none 0 0, .slice none 0 0, .slice none 0 0, .slice none 0 0, .slice none 0 0, .int .i64 0, .int .i64 0, .int .i64 0]⟩ := by kernel_rfl
theorem Try.flds34 : fldsO Try.prog 34 = some [(0, 2, true), (2, 1, false), (3, 1, false), (4, 1, false), (5, 1, false), (6, 1, false), (7, 1, false), (8, 1, false), (9, 1, false)] := by kernel_rfl
theorem Try.tinf37 : tinf Try.prog 37 = some ⟨2, 16, true, [.int .i64 0, .int .i64 0]⟩ := by kernel_rfl
theorem Try.flds37 : fldsO Try.prog 37 = some [(0, 1, false), (1, 1, false)] := by kernel_rfl
theorem Try.tinf38 : tinf Try.prog 38 = some ⟨2, 16, true, [.int .i64 0, .int .i64 0]⟩ := by kernel_rfl
theorem Try.flds38 : fldsO Try.prog 38 = some [(0, 1, false), (1, 1, false)] := by kernel_rfl
theorem Try.tinf39 : tinf Try.prog 39 = some ⟨8, 64, true, [.int .i64 0, .int .i64 0, .int .i64 0, .int .i64 0, .int .i64 0, .int .i64 0, .int .i64 0, .bool false]⟩ := by kernel_rfl
theorem Try.flds39 : fldsO Try.prog 39 = some [(0, 1, false), (1, 1, false), (2, 1, false), (3, 2, true), (5, 1, false), (6, 1, false), (7, 1, false)] := by kernel_rfl
theorem Try.tinf40 : tinf Try.prog 40 = some ⟨8, 64, true, [.int .i64 0, .int .i64 0, .int .i64 0, .int .i64 0, .int .i64 0, .int .i64 0, .int .i64 0, .bool false]⟩ := by kernel_rfl
theorem Try.flds40 : fldsO Try.prog 40 = some [(0, 1, false), (1, 1, false), (2, 1, false), (3, 2, true), (5, 1, false), (6, 1, false), (7, 1, false)] := by kernel_rfl
theorem Try.tinf42 : tinf Try.prog 42 = some ⟨2, 16, true, [.int .i64 0, .int .i64 0]⟩ := by kernel_rfl
theorem Try.flds42 : fldsO Try.prog 42 = some [(0, 1, false), (1, 1, false)] := by kernel_rfl
theorem Try.tinf43 : tinf Try.prog 43 = some ⟨2, 16, true, [.int .i64 0, .int .i64 0]⟩ := by kernel_rfl
theorem Try.flds43 : fldsO Try.prog 43 = some [(0, 1, false), (1, 1, false)] := by kernel_rfl
theorem Try.tinf44 : tinf Try.prog 44 = some ⟨1, 24, false, [.slice none 0 0]⟩ := by kernel_rfl
theorem Try.tinf45 : tinf Try.prog 45 = some ⟨3, 48, true, [.string ⟨#[]⟩, .slice none 0 0, .int .i64 0]⟩ := by kernel_rfl
theorem Try.flds45 : fldsO Try.prog 45 = some [(0, 1, false), (1, 1, false), (2, 1, false)] := by kernel_rfl
theorem Try.tinf46 : tinf Try.prog 46 = some ⟨3, 48, true, [.string ⟨#[]⟩, .slice none 0 0, .int .i64 0]⟩ := by kernel_rfl
theorem Try.flds46 : fldsO Try.prog 46 = some [(0, 1, false), (1, 1, false), (2, 1, false)] := by kernel_rfl
theorem Try.tinf52 : tinf Try.prog 52 = some ⟨1, 8, false, [.int .i64 0]⟩ := by kernel_rfl
theorem Try.tinf55 : tinf Try.prog 55 = some ⟨1, 24, false, [.slice none 0 0]⟩ := by kernel_rfl
theorem Try.tinf56 : tinf Try.prog 56 = some ⟨14, 200, true, [.int .i64 0, .int .i64 0, .string ⟨#[]⟩, .int .i64 0, .int .i64 0, .int .i64 0, .int .i64 0, .slice none 0 0, .int .i64 0, .int .i64 0, .slice none 0 0, .slice none 0 0, .slice none 0 0, .slice none 0 0]⟩ := by kernel_rfl
theorem Try.flds56 : fldsO Try.prog 56 = some [(0, 1, false), (1, 1, false), (2, 1, false), (3, 1, false), (4, 1, false), (5, 2, true), (7, 1, false), (8, 1, false), (9, 1, false), (10, 1, false), (11, 1, false), (12, 1, false), (13, 1, false)] := by kernel_rfl
theorem Try.tinf57 : tinf Try.prog 57 = some ⟨14, 200, true, [.int .i64 0, .int .i64 0, .string ⟨#[]⟩, .int .i64 0, .int .i64 0, .int .i64 0, .int .i64 0, .slice none 0 0, .int .i64 0, .int .i64 0, .slice none 0 0, .slice none 0 0, .slice none 0 0, .slice none 0 0]⟩ := by kernel_rfl
theorem Try.flds57 : fldsO Try.prog 57 = some [(0, 1, false), (1, 1, false), (2, 1, false), (3, 1, false), (4, 1, false), (5, 2, true), (7, 1, false), (8, 1, false), (9, 1, false), (10, 1, false), (11, 1, false), (12, 1, false), (13, 1, false)] := by kernel_rfl
theorem Try.tinf63 : tinf Try.prog 63 = some ⟨9, 72, true, [.int .i64 0, .int .i64 0, .int .i64 0, .int .i64 0, .int .i64 0, .int .i64 0, .int .i64 0, .bool false, .int .i64 0]⟩ := by kernel_rfl
theorem Try.flds63 : fldsO Try.prog 63 = some [(0, 1, false), (1, 1, false), (2, 1, false), (3, 2, true), (5, 1, false), (6, 1, false), (7, 1, false), (8, 1, false)] := by kernel_rfl
theorem Try.tinf64 : tinf Try.prog 64 = some ⟨9, 72, true, [.int .i64 0, .int .i64 0, .int .i64 0, .int .i64 0, .int .i64 0, .int .i64 0, .int .i64 0, .bool false, .int .i64 0]⟩ := by kernel_rfl
theorem Try.flds64 : fldsO Try.prog 64 = some [(0, 1, false), (1, 1, false), (2, 1, false), (3, 2, true), (5, 1, false), (6, 1, false), (7, 1, false), (8, 1, false)] := by kernel_rfl
theorem Try.tinf75 : tinf Try.prog 75 = some ⟨3, 24, true, [.int .i64 0, .int .i64 0, .int .i64 0]⟩ := by kernel_rfl
theorem Try.flds75 : fldsO Try.prog 75 = some [(0, 1, false), (1, 1, false), (2, 1, false)] := by kernel_rfl
theorem Try.tinf76 : tinf Try.prog 76 = some ⟨3, 24, true, [.int .i64 0, .int .i64 0, .int .i64 0]⟩ := by kernel_rfl
theorem Try.flds76 : fldsO Try.prog 76 = some [(0, 1, false), (1, 1, false), (2, 1, false)] := by kernel_rfl
theorem Try.tinf80 : tinf Try.prog 80 = some ⟨2, 16, true, [.int .i64 0, .int .i64 0]⟩ := by kernel_rfl
theorem Try.flds80 : fldsO Try.prog 80 = some [(0, 1, false), (1, 1, false)] := by kernel_rfl
theorem Try.tinf98 : tinf Try.prog 98 = some ⟨1, 8, false, [.int .u64 0]⟩ := by kernel_rfl
theorem Try.tinf104 : tinf Try.prog 104 = some ⟨6, 48, true, [.int .i64 0, .int .i64 0, .int .i64 0, .int .i64 0, .int .i64 0, .int .i64 0]⟩ := by kernel_rfl
theorem Try.flds104 : fldsO Try.prog 104 = some [(0, 1, false), (1, 1, false), (2, 1, false), (3, 1, false), (4, 2, true)] := by kernel_rfl
theorem Try.tinf105 : tinf Try.prog 105 = some ⟨6, 48, true, [.int .i64 0, .int .i64 0, .int .i64 0, .int .i64 0, .int .i64 0, .int .i64 0]⟩ := by kernel_rfl
theorem Try.flds105 : fldsO Try.prog 105 = some [(0, 1, false), (1, 1, false), (2, 1, false), (3, 1, false), (4, 2, true)] := by kernel_rfl
theorem Try.tinf106 : tinf Try.prog 106 = some ⟨8, 64, true, [.int .i64 0, .int .i64 0, .int .i64 0, .int .i64 0, .int .i64 0, .int .i64 0, .int .i64 0, .int .i64 0]⟩ := by kernel_rfl
theorem Try.flds106 : fldsO Try.prog 106 = some [(0, 1, false), (1, 1, false), (2, 2, true), (4, 1, false), (5, 1, false), (6, 1, false), (7, 1, false)] := by kernel_rfl
theorem Try.tinf107 : tinf Try.prog 107 = some ⟨8, 64, true, [.int .i64 0, .int .i64 0, .int .i64 0, .int .i64 0, .int .i64 0, .int .i64 0, .int .i64 0, .int .i64 0]⟩ := by kernel_rfl
theorem Try.flds107 : fldsO Try.prog 107 = some [(0, 1, false), (1, 1, false), (2, 2, true), (4, 1, false), (5, 1, false), (6, 1, false), (7, 1, false)] := by kernel_rfl
theorem Try.tinf110 : tinf Try.prog 110 = some ⟨1, 8, false, [.nilFunc]⟩ := by kernel_rfl
theorem Try.tinf139 : tinf Try.prog 139 = some ⟨2, 16, true, [.int .i64 0, .int .i64 0]⟩ := by kernel_rfl
theorem Try.flds139 : fldsO Try.prog 139 = some [(0, 1, false), (1, 1, false)] := by kernel_rfl
theorem Try.tinf143 : tinf Try.prog 143 = some ⟨1, 8, false, [.int .i64 0]⟩ := by kernel_rfl
theorem Try.tinf149 : tinf Try.prog 149 = some ⟨1, 24, false, [.slice none 0 0]⟩ := by kernel_rfl
theorem Try.tinf155 : tinf Try.prog 155 = some ⟨1, 4, false, [.int .u32 0]⟩ := by kernel_rfl
theorem Try.tinf169 : tinf Try.prog 169 = some ⟨11, 48, true, [.int .u64 0, .int .u64 0, .int .u32 0, .int .u8 0, .int .u8 0, .int .u8 0, .int .u8 0, .nilFunc, .pointer none, .int .i32 0, .int .i32 0]⟩ := by kernel_rfl
theorem Try.flds169 : fldsO Try.prog 169 = some [(0, 1, false), (1, 1, false), (2, 1, false), (3, 1, false), (4, 1, false), (5, 1, false), (6, 1, false), (7, 1, false), (8, 1, false), (9, 1, false), (10, 1, false)] := by kernel_rfl
theorem Try.eqty37 : eqTy Try.prog 37 = some [0, 0] := by kernel_rfl
theorem Try.eqty38 : eqTy Try.prog 38 = some [0, 0] := by kernel_rfl
theorem Try.eqty39 : eqTy Try.prog 39 = some [0, 0, 0, 0, 0, 0, 0, 1] := by kernel_rfl
theorem Try.eqty40 : eqTy Try.prog 40 = some [0, 0, 0, 0, 0, 0, 0, 1] := by kernel_rfl
theorem Try.eqty42 : eqTy Try.prog 42 = some [0, 0] := by kernel_rfl
theorem Try.eqty43 : eqTy Try.prog 43 = some [0, 0] := by kernel_rfl
theorem Try.eqty63 : eqTy Try.prog 63 = some [0, 0, 0, 0, 0, 0, 0, 1, 0] := by kernel_rfl
theorem Try.eqty64 : eqTy Try.prog 64 = some [0, 0, 0, 0, 0, 0, 0, 1, 0] := by kernel_rfl
theorem Try.eqty75 : eqTy Try.prog 75 = some [0, 0, 0] := by kernel_rfl
theorem Try.eqty76 : eqTy Try.prog 76 = some [0, 0, 0] := by kernel_rfl
theorem Try.eqty80 : eqTy Try.prog 80 = some [0, 0] := by kernel_rfl
theorem Try.eqty104 : eqTy Try.prog 104 = some [0, 0, 0, 0, 0, 0] := by kernel_rfl
theorem Try.eqty105 : eqTy Try.prog 105 = some [0, 0, 0, 0, 0, 0] := by kernel_rfl
theorem Try.eqty106 : eqTy Try.prog 106 = some [0, 0, 0, 0, 0, 0, 0, 0] := by kernel_rfl
theorem Try.eqty107 : eqTy Try.prog 107 = some [0, 0, 0, 0, 0, 0, 0, 0] := by kernel_rfl
theorem Try.eqty139 : eqTy Try.prog 139 = some [0, 0] := by kernel_rfl
theorem Try.mixed : Try.prog.follows .mixedOrders = true := by kernel_rfl
end Go.Proofs.Ytjeeclabnimbbaa

/- The states of the cluster, as plain data, and their cells. -/
namespace Go.Proofs.Ytjeeclabnimbbaa
open Go.RowKit

abbrev dI (n : Int) : D := .v (.int .i64 n)
abbrev dB (t : Bool) : D := .v (.bool t)
abbrev dS (s : ByteArray) : D := .v (.string s)
abbrev pI (n : Int) : PV := .d (dI n)
abbrev pB (t : Bool) : PV := .d (dB t)
abbrev pS (s : ByteArray) : PV := .d (dS s)
structure Nd where
  (id label rack mem cores seen beat : Int) (up : Bool)
structure Ak where
  (prio label mem cores count node rack missed : Int)
structure Ap where
  (id state : Int) (queue : ByteArray) (user prio mem cores : Int) (asks : List Ak) (seen beat : Int) (grants kills told lost : List Int)
structure Ct where
  (id app node mem cores prio label : Int) (master : Bool) (notice : Int)
structure Sl where
  (node app prio : Int)
structure Pl where
  (id label fro til mem cores : Int)
structure Cp where
  (least most : Int)
structure Qu where
  (path : ByteArray) (caps : List Cp) (user : Int)
structure Sta where
  (labels : List ByteArray) (queues : List Qu) (nodes : List Nd) (apps : List Ap) (conts : List Ct) (slots : List Sl) (plans : List Pl) (now epoch seq : Int)
def Nd.d (x : Nd) : List D := [dI x.id, dI x.label, dI x.rack, dI x.mem, dI x.cores, dI x.seen, dI x.beat, dB x.up]
def Ak.d (x : Ak) : List D := [dI x.prio, dI x.label, dI x.mem, dI x.cores, dI x.count, dI x.node, dI x.rack, dI x.missed]
def intsD (l : List Int) : D := .sl (l.map fun x => [dI x])
def asksD (l : List Ak) : D := .sl (l.map Ak.d)
def Ap.d (x : Ap) : List D := [dI x.id, dI x.state, dS x.queue, dI x.user, dI x.prio, dI x.mem, dI x.cores, asksD x.asks, dI x.seen, dI x.beat, intsD x.grants, intsD x.kills, intsD x.told, intsD x.lost]
def Ct.d (x : Ct) : List D := [dI x.id, dI x.app, dI x.node, dI x.mem, dI x.cores, dI x.prio, dI x.label, dB x.master, dI x.notice]
def Sl.d (x : Sl) : List D := [dI x.node, dI x.app, dI x.prio]
def Pl.d (x : Pl) : List D := [dI x.id, dI x.label, dI x.fro, dI x.til, dI x.mem, dI x.cores]
def Cp.d (x : Cp) : List D := [dI x.least, dI x.most]
def Qu.d (x : Qu) : List D := [dS x.path, .sl (x.caps.map Cp.d), dI x.user]
def strsD (l : List ByteArray) : D := .sl (l.map fun x => [dS x])
def Sta.d (x : Sta) : List D := [strsD x.labels, .sl (x.queues.map Qu.d), .sl (x.nodes.map Nd.d), .sl (x.apps.map Ap.d), .sl (x.conts.map Ct.d), .sl (x.slots.map Sl.d), .sl (x.plans.map Pl.d), dI x.now, dI x.epoch, dI x.seq]
def Nd.c (x : Nd) : List PV := [pI x.id, pI x.label, pI x.rack, pI x.mem, pI x.cores, pI x.seen, pI x.beat, pB x.up]
def Ak.c (x : Ak) : List PV := [pI x.prio, pI x.label, pI x.mem, pI x.cores, pI x.count, pI x.node, pI x.rack, pI x.missed]
def Ap.c (x : Ap) : List PV := [pI x.id, pI x.state, pS x.queue, pI x.user, pI x.prio, pI x.mem, pI x.cores, .d (asksD x.asks), pI x.seen, pI x.beat, .d (intsD x.grants), .d (intsD x.kills), .d (intsD x.told), .d (intsD x.lost)]
def Ct.c (x : Ct) : List PV := [pI x.id, pI x.app, pI x.node, pI x.mem, pI x.cores, pI x.prio, pI x.label, pB x.master, pI x.notice]
def Sl.c (x : Sl) : List PV := [pI x.node, pI x.app, pI x.prio]
def Pl.c (x : Pl) : List PV := [pI x.id, pI x.label, pI x.fro, pI x.til, pI x.mem, pI x.cores]
def Cp.c (x : Cp) : List PV := [pI x.least, pI x.most]
def Qu.c (x : Qu) : List PV := [pS x.path, .d (.sl (x.caps.map Cp.d)), pI x.user]
def Sta.c (x : Sta) : List PV := [.d (strsD x.labels), .d (.sl (x.queues.map Qu.d)), .d (.sl (x.nodes.map Nd.d)), .d (.sl (x.apps.map Ap.d)), .d (.sl (x.conts.map Ct.d)), .d (.sl (x.slots.map Sl.d)), .d (.sl (x.plans.map Pl.d)), pI x.now, pI x.epoch, pI x.seq]
theorem lenNd (l : List Nd) : lenAll 8 (l.map Nd.d) = True := lenAll_map (k := 8) Nd.d (fun _ => rfl) l
theorem lenAk (l : List Ak) : lenAll 8 (l.map Ak.d) = True := lenAll_map (k := 8) Ak.d (fun _ => rfl) l
theorem lenAp (l : List Ap) : lenAll 14 (l.map Ap.d) = True := lenAll_map (k := 14) Ap.d (fun _ => rfl) l
theorem lenCt (l : List Ct) : lenAll 9 (l.map Ct.d) = True := lenAll_map (k := 9) Ct.d (fun _ => rfl) l
theorem lenSl (l : List Sl) : lenAll 3 (l.map Sl.d) = True := lenAll_map (k := 3) Sl.d (fun _ => rfl) l
theorem lenPl (l : List Pl) : lenAll 6 (l.map Pl.d) = True := lenAll_map (k := 6) Pl.d (fun _ => rfl) l
theorem lenCp (l : List Cp) : lenAll 2 (l.map Cp.d) = True := lenAll_map (k := 2) Cp.d (fun _ => rfl) l
theorem lenQu (l : List Qu) : lenAll 3 (l.map Qu.d) = True := lenAll_map (k := 3) Qu.d (fun _ => rfl) l
theorem lenIn (l : List Int) : lenAll 1 (l.map fun x => [dI x]) = True := lenAll_map (k := 1) (fun x => [dI x]) (fun _ => rfl) l
theorem lenSt (l : List ByteArray) : lenAll 1 (l.map fun x => [dS x]) = True := lenAll_map (k := 1) (fun x => [dS x]) (fun _ => rfl) l
theorem lenInv (l : List Int) : lenAll 1 (l.map fun x => [D.v (.int .i64 x)]) = True := lenAll_map (k := 1) (fun x => [D.v (.int .i64 x)]) (fun _ => rfl) l
theorem lenStv (l : List ByteArray) : lenAll 1 (l.map fun x => [D.v (.string x)]) = True := lenAll_map (k := 1) (fun x => [D.v (.string x)]) (fun _ => rfl) l
/-- A struct, as a value. -/
def agD (l : List D) : PV := .ag (l.map .d)
def Ct.zero : Ct := ⟨0, 0, 0, 0, 0, 0, 0, false, 0⟩
theorem wrapI {x : Int} (h1 : -9223372036854775808 ≤ x) (h2 : x ≤ 9223372036854775807) : IntKind.i64.wrap x = x := by
  exact IntWalk.i64_in x ⟨h1, h2⟩
theorem castS (k : Nat) : ((k : Int) + 1) = ((k + 1 : Nat) : Int) := rfl
end Go.Proofs.Ytjeeclabnimbbaa

/- Plain facts on lists, for loops. -/
namespace Go.Proofs.Ytjeeclabnimbbaa
open Go.RowKit

theorem find_take {α : Type} {p : α → Bool} {l : List α} {k : Nat} {c : α} (h : ∀ x ∈ l.take k, p x = false) (hc : l[k]? = some c) (hp : p c = true) : l.find? p = some c ∧ l.any p = true := by
  have e : l = l.take k ++ c :: l.drop (k + 1) := by
    have hk := (List.getElem?_eq_some_iff.1 hc).1
    have h2 := (List.getElem?_eq_some_iff.1 hc).2
    rw [← h2, List.getElem_cons_drop, List.take_append_drop]
  constructor
  · rw [e, List.find?_append, List.find?_eq_none.2 (fun x hx => by simp [h x hx])]
    simp [hp]
  · rw [List.any_eq_true]
    exact ⟨c, List.mem_of_getElem? hc, hp⟩
theorem find_end {α : Type} {p : α → Bool} {l : List α} (h : ∀ x ∈ l, p x = false) : l.find? p = none ∧ l.any p = false :=
  ⟨List.find?_eq_none.2 (fun x hx => by simp [h x hx]), by rw [List.any_eq_false]; intro x hx; simp [h x hx]⟩
theorem take_snoc {α : Type} {p : α → Prop} {l : List α} {k : Nat} {c : α} (h : ∀ x ∈ l.take k, p x) (hc : l[k]? = some c) (hp : p c) : ∀ x ∈ l.take (k + 1), p x := by
  intro x hx
  rw [List.take_add_one, hc] at hx
  simp at hx
  rcases hx with hx | rfl
  · exact h x hx
  · exact hp
theorem take_next {α : Type} {l : List α} {k : Nat} {c : α} (hc : l[k]? = some c) : l.take (k + 1) = l.take k ++ [c] := by
  rw [List.take_add_one, hc]; rfl
/-- How far a walk goes whose test holds of the first ones. -/
def upto {α : Type} (p : α → Bool) (l : List α) : Nat := (l.takeWhile p).length
theorem upto_at {α : Type} {p : α → Bool} {l : List α} {k : Nat} {c : α} (h : ∀ x ∈ l.take k, p x = true) (hc : l[k]? = some c) (hp : p c = false) : upto p l = k := by
  have hk := (List.getElem?_eq_some_iff.1 hc).1
  have e : l = l.take k ++ c :: l.drop (k + 1) := by
    have h2 := (List.getElem?_eq_some_iff.1 hc).2
    rw [← h2, List.getElem_cons_drop, List.take_append_drop]
  unfold upto
  rw [e, List.takeWhile_append_of_pos h]
  simp [hp]
  omega
theorem upto_end {α : Type} {p : α → Bool} {l : List α} (h : ∀ x ∈ l, p x = true) : upto p l = l.length := by
  unfold upto
  have := List.takeWhile_append_of_pos (l₂ := []) h
  rw [List.append_nil] at this
  rw [this]
  simp
theorem at_k {α : Type} {l : List α} {k : Nat} (h : k < l.length) : ∃ c, l[k]? = some c := ⟨_, List.getElem?_eq_getElem h⟩
theorem lt_t {k n : Nat} (h : k < n) : decide ((k : Int) < (n : Int)) = true := by simpa using h
theorem lt_f {k n : Nat} (h : ¬ k < n) : decide ((k : Int) < (n : Int)) = false := by simpa using h
theorem filter_next {α : Type} (p : α → Bool) {l : List α} {k : Nat} {c : α} (hc : l[k]? = some c) : (l.take (k + 1)).filter p = (l.take k).filter p ++ (if p c then [c] else []) := by
  rw [take_next hc, List.filter_append]
  congr 1
  cases h : p c <;> simp [h]
theorem snocK (k : Nat) (h : k + 1 ≤ 9223372036854775807) : IntKind.i64.wrap ((k : Int) + 1) = ((k + 1 : Nat) : Int) := wrapI (by omega) (by omega)
end Go.Proofs.Ytjeeclabnimbbaa

/- Generic walks: plain partial operations; states in normal form; tests that part; loops as plain recursion. -/
namespace Go.Proofs.Ytjeeclabnimbbaa
open Go.RowKit

/-! ### Plain partial operations -/
section
variable {α β σ τ : Type}
def idxO (l : List α) (i : Int) : Option α := if 0 ≤ i then l[i.toNat]? else none
def appO (l m : List α) : Option (List α) := if l.length + m.length ≤ 1000000 then some (l ++ m) else none
def hiO (l : List α) (k : Int) : Option (List α) := if 0 ≤ k ∧ k.toNat ≤ l.length then some (l.take k.toNat) else none
def loO (l : List α) (k : Int) : Option (List α) := if 0 ≤ k ∧ k.toNat ≤ l.length then some (l.drop k.toNat) else none
def setO (l : List α) (i : Int) (y : α) : Option (List α) := if 0 ≤ i ∧ i.toNat < l.length then some (l.set i.toNat y) else none
def sIdxO (s : ByteArray) (i : Int) : Option Int := if 0 ≤ i then (s.data.toList[i.toNat]?).map (fun c => (c.toNat : Int)) else none
def sHiO (s : ByteArray) (k : Int) : Option ByteArray := if 0 ≤ k ∧ k.toNat ≤ s.size then some (s.extract 0 k.toNat) else none
def sLoO (s : ByteArray) (k : Int) : Option ByteArray := if 0 ≤ k ∧ k.toNat ≤ s.size then some (s.extract k.toNat s.size) else none
def sLhO (s : ByteArray) (a b : Int) : Option ByteArray := if 0 ≤ a ∧ 0 ≤ b ∧ a.toNat ≤ b.toNat ∧ b.toNat ≤ s.size then some (s.extract a.toNat b.toNat) else none
def sCatO (s t : ByteArray) : Option ByteArray := if s.size + t.size ≤ 9223372036854775807 then some (s ++ t) else none
def sOfO (l : List Int) : Option ByteArray := if l = [] then none else some (l.foldl (fun r n => r.push (UInt8.ofNat n.toNat)) ByteArray.empty)
def remO (x y : Int) : Option Int := if y = 0 then none else some (x.tmod y)
def quoO (x y : Int) : Option Int := if y = 0 then none else some (IntKind.i64.wrap (x.tdiv y))
/-- A loop: at most so many rounds. -/
def loopO (f : σ → Option (σ ⊕ τ)) : Nat → σ → Option τ
  | 0, _ => none
  | n + 1, s => match f s with
    | none => none
    | some (.inl s') => loopO f n s'
    | some (.inr r) => some r
/-- How many rounds a loop may have. -/
def rounds : Nat := 1000000000

theorem bindO {o : Option α} {k : α → Option β} {r : β} (h : o.bind k = some r) : ∃ x, o = some x ∧ k x = some r := by
  cases o with
  | none => cases h
  | some x => exact ⟨x, rfl, h⟩
theorem peel_idx {l : List α} {i : Int} {k : α → Option β} {r : β} (h : (idxO l i).bind k = some r) : ∃ x, (0 ≤ i ∧ l[i.toNat]? = some x ∧ i.toNat < l.length) ∧ k x = some r := by
  obtain ⟨x, h1, h2⟩ := bindO h
  unfold idxO at h1
  split at h1
  · exact ⟨x, ⟨‹_›, h1, (List.getElem?_eq_some_iff.1 h1).1⟩, h2⟩
  · cases h1
theorem peel_app {l m : List α} {k : List α → Option β} {r : β} (h : (appO l m).bind k = some r) : l.length + m.length ≤ 1000000 ∧ k (l ++ m) = some r := by
  obtain ⟨x, h1, h2⟩ := bindO h
  unfold appO at h1
  split at h1
  · injection h1 with h1; subst h1; exact ⟨‹_›, h2⟩
  · cases h1
theorem peel_hi {l : List α} {i : Int} {k : List α → Option β} {r : β} (h : (hiO l i).bind k = some r) : (0 ≤ i ∧ i.toNat ≤ l.length) ∧ k (l.take i.toNat) = some r := by
  obtain ⟨x, h1, h2⟩ := bindO h
  unfold hiO at h1
  split at h1
  · injection h1 with h1; subst h1; exact ⟨‹_›, h2⟩
  · cases h1
theorem peel_lo {l : List α} {i : Int} {k : List α → Option β} {r : β} (h : (loO l i).bind k = some r) : (0 ≤ i ∧ i.toNat ≤ l.length) ∧ k (l.drop i.toNat) = some r := by
  obtain ⟨x, h1, h2⟩ := bindO h
  unfold loO at h1
  split at h1
  · injection h1 with h1; subst h1; exact ⟨‹_›, h2⟩
  · cases h1
theorem peel_set {l : List α} {i : Int} {y : α} {k : List α → Option β} {r : β} (h : (setO l i y).bind k = some r) : (0 ≤ i ∧ i.toNat < l.length ∧ ∃ x, l[i.toNat]? = some x) ∧ k (l.set i.toNat y) = some r := by
  obtain ⟨x, h1, h2⟩ := bindO h
  unfold setO at h1
  split at h1
  · rename_i hc
    injection h1 with h1; subst h1; exact ⟨⟨hc.1, hc.2, _, List.getElem?_eq_getElem hc.2⟩, h2⟩
  · cases h1
theorem peel_sidx {s : ByteArray} {i : Int} {k : Int → Option β} {r : β} (h : (sIdxO s i).bind k = some r) : ∃ c : UInt8, (0 ≤ i ∧ s.data.toList[i.toNat]? = some c) ∧ k (c.toNat : Int) = some r := by
  obtain ⟨x, h1, h2⟩ := bindO h
  unfold sIdxO at h1
  split at h1
  · rw [Option.map_eq_some_iff] at h1
    obtain ⟨c, h3, rfl⟩ := h1
    exact ⟨c, ⟨‹_›, h3⟩, h2⟩
  · cases h1
theorem peel_shi {s : ByteArray} {i : Int} {k : ByteArray → Option β} {r : β} (h : (sHiO s i).bind k = some r) : (0 ≤ i ∧ i.toNat ≤ s.size) ∧ k (s.extract 0 i.toNat) = some r := by
  obtain ⟨x, h1, h2⟩ := bindO h
  unfold sHiO at h1
  split at h1
  · injection h1 with h1; subst h1; exact ⟨‹_›, h2⟩
  · cases h1
theorem peel_slo {s : ByteArray} {i : Int} {k : ByteArray → Option β} {r : β} (h : (sLoO s i).bind k = some r) : (0 ≤ i ∧ i.toNat ≤ s.size) ∧ k (s.extract i.toNat s.size) = some r := by
  obtain ⟨x, h1, h2⟩ := bindO h
  unfold sLoO at h1
  split at h1
  · injection h1 with h1; subst h1; exact ⟨‹_›, h2⟩
  · cases h1
theorem peel_slh {s : ByteArray} {a b : Int} {k : ByteArray → Option β} {r : β} (h : (sLhO s a b).bind k = some r) : (0 ≤ a ∧ 0 ≤ b ∧ a.toNat ≤ b.toNat ∧ b.toNat ≤ s.size) ∧ k (s.extract a.toNat b.toNat) = some r := by
  obtain ⟨x, h1, h2⟩ := bindO h
  unfold sLhO at h1
  split at h1
  · injection h1 with h1; subst h1; exact ⟨‹_›, h2⟩
  · cases h1
theorem peel_scat {s t : ByteArray} {k : ByteArray → Option β} {r : β} (h : (sCatO s t).bind k = some r) : s.size + t.size ≤ 9223372036854775807 ∧ k (s ++ t) = some r := by
  obtain ⟨x, h1, h2⟩ := bindO h
  unfold sCatO at h1
  split at h1
  · injection h1 with h1; subst h1; exact ⟨‹_›, h2⟩
  · cases h1
theorem peel_sof {l : List Int} {k : ByteArray → Option β} {r : β} (h : (sOfO l).bind k = some r) : ¬ l = [] ∧ k (l.foldl (fun r n => r.push (UInt8.ofNat n.toNat)) ByteArray.empty) = some r := by
  obtain ⟨x, h1, h2⟩ := bindO h
  unfold sOfO at h1
  split at h1
  · cases h1
  · injection h1 with h1; subst h1; exact ⟨‹_›, h2⟩
theorem peel_rem {x y : Int} {k : Int → Option β} {r : β} (h : (remO x y).bind k = some r) : ¬ y = 0 ∧ k (x.tmod y) = some r := by
  obtain ⟨z, h1, h2⟩ := bindO h
  unfold remO at h1
  split at h1
  · cases h1
  · injection h1 with h1; subst h1; exact ⟨‹_›, h2⟩
theorem peel_quo {x y : Int} {k : Int → Option β} {r : β} (h : (quoO x y).bind k = some r) : ¬ y = 0 ∧ k (IntKind.i64.wrap (x.tdiv y)) = some r := by
  obtain ⟨z, h1, h2⟩ := bindO h
  unfold quoO at h1
  split at h1
  · cases h1
  · injection h1 with h1; subst h1; exact ⟨‹_›, h2⟩
theorem take_all_drop (l : List α) (k : Nat) : (l.drop k).take (l.length - k) = l.drop k := List.take_of_length_le (by simp)
theorem take_all_drop_map (f : α → β) (l : List α) (k : Nat) : ((l.map f).drop k).take (l.length - k) = (l.map f).drop k := List.take_of_length_le (by simp)
end

end Go.Proofs.Ytjeeclabnimbbaa

/- Structs of the program, as plain data (written by gen.py). -/
namespace Go.Proofs.Ytjeeclabnimbbaa
open Go.RowKit

def iD (n : Int) : List D := [.v (.int .i64 n)]
def uD (n : Int) : List D := [.v (.int .u8 n)]
def bD (t : Bool) : List D := [.v (.bool t)]
def sD (s : ByteArray) : List D := [.v (.string s)]
theorem len_iD (l : List Int) : lenAll 1 (l.map iD) = True := lenAll_map (k := 1) iD (fun _ => rfl) l
theorem len_uD (l : List Int) : lenAll 1 (l.map uD) = True := lenAll_map (k := 1) uD (fun _ => rfl) l
theorem len_bD (l : List Bool) : lenAll 1 (l.map bD) = True := lenAll_map (k := 1) bD (fun _ => rfl) l
theorem len_sD (l : List ByteArray) : lenAll 1 (l.map sD) = True := lenAll_map (k := 1) sD (fun _ => rfl) l
structure GVec where
  fMem : Int
  fCores : Int
def GVec.zero : GVec := ⟨0, 0⟩
def GVec.d (x : GVec) : List D := [.v (.int .i64 x.fMem), .v (.int .i64 x.fCores)]
def GVec.c (x : GVec) : List PV := [.d (.v (.int .i64 x.fMem)), .d (.v (.int .i64 x.fCores))]
theorem len_GVec (l : List GVec) : lenAll 2 (l.map GVec.d) = True := lenAll_map (k := 2) GVec.d (fun _ => rfl) l
structure GAsk where
  fPrio : Int
  fLabel : Int
  fSize : GVec
  fCount : Int
  fNode : Int
  fRack : Int
  fMissed : Int
def GAsk.zero : GAsk := ⟨0, 0, GVec.zero, 0, 0, 0, 0⟩
def GAsk.d (x : GAsk) : List D := [.v (.int .i64 x.fPrio), .v (.int .i64 x.fLabel), .v (.int .i64 x.fSize.fMem), .v (.int .i64 x.fSize.fCores), .v (.int .i64 x.fCount), .v (.int .i64 x.fNode), .v (.int .i64 x.fRack), .v (.int .i64 x.fMissed)]
def GAsk.c (x : GAsk) : List PV := [.d (.v (.int .i64 x.fPrio)), .d (.v (.int .i64 x.fLabel)), .d (.v (.int .i64 x.fSize.fMem)), .d (.v (.int .i64 x.fSize.fCores)), .d (.v (.int .i64 x.fCount)), .d (.v (.int .i64 x.fNode)), .d (.v (.int .i64 x.fRack)), .d (.v (.int .i64 x.fMissed))]
theorem len_GAsk (l : List GAsk) : lenAll 8 (l.map GAsk.d) = True := lenAll_map (k := 8) GAsk.d (fun _ => rfl) l
structure GApp where
  fId : Int
  fState : Int
  fQueue : ByteArray
  fUser : Int
  fPrio : Int
  fMaster : GVec
  fAsks : (List GAsk)
  fSeen : Int
  fBeat : Int
  fGrants : (List Int)
  fKills : (List Int)
  fTold : (List Int)
  fLost : (List Int)
def GApp.zero : GApp := ⟨0, 0, ⟨#[]⟩, 0, 0, GVec.zero, [], 0, 0, [], [], [], []⟩
def GApp.d (x : GApp) : List D := [.v (.int .i64 x.fId), .v (.int .i64 x.fState), .v (.string x.fQueue), .v (.int .i64 x.fUser), .v (.int .i64 x.fPrio), .v (.int .i64 x.fMaster.fMem), .v (.int .i64 x.fMaster.fCores), .sl (x.fAsks.map GAsk.d), .v (.int .i64 x.fSeen), .v (.int .i64 x.fBeat), .sl (x.fGrants.map iD), .sl (x.fKills.map iD), .sl (x.fTold.map iD), .sl (x.fLost.map iD)]
def GApp.c (x : GApp) : List PV := [.d (.v (.int .i64 x.fId)), .d (.v (.int .i64 x.fState)), .d (.v (.string x.fQueue)), .d (.v (.int .i64 x.fUser)), .d (.v (.int .i64 x.fPrio)), .d (.v (.int .i64 x.fMaster.fMem)), .d (.v (.int .i64 x.fMaster.fCores)), .d (.sl (x.fAsks.map GAsk.d)), .d (.v (.int .i64 x.fSeen)), .d (.v (.int .i64 x.fBeat)), .d (.sl (x.fGrants.map iD)), .d (.sl (x.fKills.map iD)), .d (.sl (x.fTold.map iD)), .d (.sl (x.fLost.map iD))]
theorem len_GApp (l : List GApp) : lenAll 14 (l.map GApp.d) = True := lenAll_map (k := 14) GApp.d (fun _ => rfl) l
structure GCap where
  fLeast : Int
  fMost : Int
def GCap.zero : GCap := ⟨0, 0⟩
def GCap.d (x : GCap) : List D := [.v (.int .i64 x.fLeast), .v (.int .i64 x.fMost)]
def GCap.c (x : GCap) : List PV := [.d (.v (.int .i64 x.fLeast)), .d (.v (.int .i64 x.fMost))]
theorem len_GCap (l : List GCap) : lenAll 2 (l.map GCap.d) = True := lenAll_map (k := 2) GCap.d (fun _ => rfl) l
structure GQueue where
  fPath : ByteArray
  fCaps : (List GCap)
  fUser : Int
def GQueue.zero : GQueue := ⟨⟨#[]⟩, [], 0⟩
def GQueue.d (x : GQueue) : List D := [.v (.string x.fPath), .sl (x.fCaps.map GCap.d), .v (.int .i64 x.fUser)]
def GQueue.c (x : GQueue) : List PV := [.d (.v (.string x.fPath)), .d (.sl (x.fCaps.map GCap.d)), .d (.v (.int .i64 x.fUser))]
theorem len_GQueue (l : List GQueue) : lenAll 3 (l.map GQueue.d) = True := lenAll_map (k := 3) GQueue.d (fun _ => rfl) l
structure GConf where
  fLabels : (List ByteArray)
  fQueues : (List GQueue)
def GConf.zero : GConf := ⟨[], []⟩
def GConf.d (x : GConf) : List D := [.sl (x.fLabels.map sD), .sl (x.fQueues.map GQueue.d)]
def GConf.c (x : GConf) : List PV := [.d (.sl (x.fLabels.map sD)), .d (.sl (x.fQueues.map GQueue.d))]
theorem len_GConf (l : List GConf) : lenAll 2 (l.map GConf.d) = True := lenAll_map (k := 2) GConf.d (fun _ => rfl) l
structure GCont where
  fId : Int
  fApp : Int
  fNode : Int
  fSize : GVec
  fPrio : Int
  fLabel : Int
  fMaster : Bool
  fNotice : Int
def GCont.zero : GCont := ⟨0, 0, 0, GVec.zero, 0, 0, false, 0⟩
def GCont.d (x : GCont) : List D := [.v (.int .i64 x.fId), .v (.int .i64 x.fApp), .v (.int .i64 x.fNode), .v (.int .i64 x.fSize.fMem), .v (.int .i64 x.fSize.fCores), .v (.int .i64 x.fPrio), .v (.int .i64 x.fLabel), .v (.bool x.fMaster), .v (.int .i64 x.fNotice)]
def GCont.c (x : GCont) : List PV := [.d (.v (.int .i64 x.fId)), .d (.v (.int .i64 x.fApp)), .d (.v (.int .i64 x.fNode)), .d (.v (.int .i64 x.fSize.fMem)), .d (.v (.int .i64 x.fSize.fCores)), .d (.v (.int .i64 x.fPrio)), .d (.v (.int .i64 x.fLabel)), .d (.v (.bool x.fMaster)), .d (.v (.int .i64 x.fNotice))]
theorem len_GCont (l : List GCont) : lenAll 9 (l.map GCont.d) = True := lenAll_map (k := 9) GCont.d (fun _ => rfl) l
structure GNode where
  fId : Int
  fLabel : Int
  fRack : Int
  fCap : GVec
  fSeen : Int
  fBeat : Int
  fUp : Bool
def GNode.zero : GNode := ⟨0, 0, 0, GVec.zero, 0, 0, false⟩
def GNode.d (x : GNode) : List D := [.v (.int .i64 x.fId), .v (.int .i64 x.fLabel), .v (.int .i64 x.fRack), .v (.int .i64 x.fCap.fMem), .v (.int .i64 x.fCap.fCores), .v (.int .i64 x.fSeen), .v (.int .i64 x.fBeat), .v (.bool x.fUp)]
def GNode.c (x : GNode) : List PV := [.d (.v (.int .i64 x.fId)), .d (.v (.int .i64 x.fLabel)), .d (.v (.int .i64 x.fRack)), .d (.v (.int .i64 x.fCap.fMem)), .d (.v (.int .i64 x.fCap.fCores)), .d (.v (.int .i64 x.fSeen)), .d (.v (.int .i64 x.fBeat)), .d (.v (.bool x.fUp))]
theorem len_GNode (l : List GNode) : lenAll 8 (l.map GNode.d) = True := lenAll_map (k := 8) GNode.d (fun _ => rfl) l
structure GPlan where
  fId : Int
  fLabel : Int
  fFrom : Int
  fUntil : Int
  fNeed : GVec
def GPlan.zero : GPlan := ⟨0, 0, 0, 0, GVec.zero⟩
def GPlan.d (x : GPlan) : List D := [.v (.int .i64 x.fId), .v (.int .i64 x.fLabel), .v (.int .i64 x.fFrom), .v (.int .i64 x.fUntil), .v (.int .i64 x.fNeed.fMem), .v (.int .i64 x.fNeed.fCores)]
def GPlan.c (x : GPlan) : List PV := [.d (.v (.int .i64 x.fId)), .d (.v (.int .i64 x.fLabel)), .d (.v (.int .i64 x.fFrom)), .d (.v (.int .i64 x.fUntil)), .d (.v (.int .i64 x.fNeed.fMem)), .d (.v (.int .i64 x.fNeed.fCores))]
theorem len_GPlan (l : List GPlan) : lenAll 6 (l.map GPlan.d) = True := lenAll_map (k := 6) GPlan.d (fun _ => rfl) l
structure GInput where
  fKind : Int
  fId : Int
  fBeat : Int
  fN : Int
  fText : ByteArray
  fNode : GNode
  fApp : GApp
  fAsks : (List GAsk)
  fIds : (List Int)
  fPlan : GPlan
def GInput.zero : GInput := ⟨0, 0, 0, 0, ⟨#[]⟩, GNode.zero, GApp.zero, [], [], GPlan.zero⟩
def GInput.d (x : GInput) : List D := [.v (.int .i64 x.fKind), .v (.int .i64 x.fId), .v (.int .i64 x.fBeat), .v (.int .i64 x.fN), .v (.string x.fText), .v (.int .i64 x.fNode.fId), .v (.int .i64 x.fNode.fLabel), .v (.int .i64 x.fNode.fRack), .v (.int .i64 x.fNode.fCap.fMem), .v (.int .i64 x.fNode.fCap.fCores), .v (.int .i64 x.fNode.fSeen), .v (.int .i64 x.fNode.fBeat), .v (.bool x.fNode.fUp), .v (.int .i64 x.fApp.fId), .v (.int .i64 x.fApp.fState), .v (.string x.fApp.fQueue), .v (.int .i64 x.fApp.fUser), .v (.int .i64 x.fApp.fPrio), .v (.int .i64 x.fApp.fMaster.fMem), .v (.int .i64 x.fApp.fMaster.fCores), .sl (x.fApp.fAsks.map GAsk.d), .v (.int .i64 x.fApp.fSeen), .v (.int .i64 x.fApp.fBeat), .sl (x.fApp.fGrants.map iD), .sl (x.fApp.fKills.map iD), .sl (x.fApp.fTold.map iD), .sl (x.fApp.fLost.map iD), .sl (x.fAsks.map GAsk.d), .sl (x.fIds.map iD), .v (.int .i64 x.fPlan.fId), .v (.int .i64 x.fPlan.fLabel), .v (.int .i64 x.fPlan.fFrom), .v (.int .i64 x.fPlan.fUntil), .v (.int .i64 x.fPlan.fNeed.fMem), .v (.int .i64 x.fPlan.fNeed.fCores)]
def GInput.c (x : GInput) : List PV := [.d (.v (.int .i64 x.fKind)), .d (.v (.int .i64 x.fId)), .d (.v (.int .i64 x.fBeat)), .d (.v (.int .i64 x.fN)), .d (.v (.string x.fText)), .d (.v (.int .i64 x.fNode.fId)), .d (.v (.int .i64 x.fNode.fLabel)), .d (.v (.int .i64 x.fNode.fRack)), .d (.v (.int .i64 x.fNode.fCap.fMem)), .d (.v (.int .i64 x.fNode.fCap.fCores)), .d (.v (.int .i64 x.fNode.fSeen)), .d (.v (.int .i64 x.fNode.fBeat)), .d (.v (.bool x.fNode.fUp)), .d (.v (.int .i64 x.fApp.fId)), .d (.v (.int .i64 x.fApp.fState)), .d (.v (.string x.fApp.fQueue)), .d (.v (.int .i64 x.fApp.fUser)), .d (.v (.int .i64 x.fApp.fPrio)), .d (.v (.int .i64 x.fApp.fMaster.fMem)), .d (.v (.int .i64 x.fApp.fMaster.fCores)), .d (.sl (x.fApp.fAsks.map GAsk.d)), .d (.v (.int .i64 x.fApp.fSeen)), .d (.v (.int .i64 x.fApp.fBeat)), .d (.sl (x.fApp.fGrants.map iD)), .d (.sl (x.fApp.fKills.map iD)), .d (.sl (x.fApp.fTold.map iD)), .d (.sl (x.fApp.fLost.map iD)), .d (.sl (x.fAsks.map GAsk.d)), .d (.sl (x.fIds.map iD)), .d (.v (.int .i64 x.fPlan.fId)), .d (.v (.int .i64 x.fPlan.fLabel)), .d (.v (.int .i64 x.fPlan.fFrom)), .d (.v (.int .i64 x.fPlan.fUntil)), .d (.v (.int .i64 x.fPlan.fNeed.fMem)), .d (.v (.int .i64 x.fPlan.fNeed.fCores))]
theorem len_GInput (l : List GInput) : lenAll 35 (l.map GInput.d) = True := lenAll_map (k := 35) GInput.d (fun _ => rfl) l
structure GOutput where
  fErr : Int
  fConts : (List GCont)
  fIds : (List Int)
  fGone : (List Int)
  fN : Int
def GOutput.zero : GOutput := ⟨0, [], [], [], 0⟩
def GOutput.d (x : GOutput) : List D := [.v (.int .i64 x.fErr), .sl (x.fConts.map GCont.d), .sl (x.fIds.map iD), .sl (x.fGone.map iD), .v (.int .i64 x.fN)]
def GOutput.c (x : GOutput) : List PV := [.d (.v (.int .i64 x.fErr)), .d (.sl (x.fConts.map GCont.d)), .d (.sl (x.fIds.map iD)), .d (.sl (x.fGone.map iD)), .d (.v (.int .i64 x.fN))]
theorem len_GOutput (l : List GOutput) : lenAll 5 (l.map GOutput.d) = True := lenAll_map (k := 5) GOutput.d (fun _ => rfl) l
structure GSlot where
  fNode : Int
  fApp : Int
  fPrio : Int
def GSlot.zero : GSlot := ⟨0, 0, 0⟩
def GSlot.d (x : GSlot) : List D := [.v (.int .i64 x.fNode), .v (.int .i64 x.fApp), .v (.int .i64 x.fPrio)]
def GSlot.c (x : GSlot) : List PV := [.d (.v (.int .i64 x.fNode)), .d (.v (.int .i64 x.fApp)), .d (.v (.int .i64 x.fPrio))]
theorem len_GSlot (l : List GSlot) : lenAll 3 (l.map GSlot.d) = True := lenAll_map (k := 3) GSlot.d (fun _ => rfl) l
structure GState where
  fConf : GConf
  fNodes : (List GNode)
  fApps : (List GApp)
  fConts : (List GCont)
  fSlots : (List GSlot)
  fPlans : (List GPlan)
  fNow : Int
  fEpoch : Int
  fSeq : Int
def GState.zero : GState := ⟨GConf.zero, [], [], [], [], [], 0, 0, 0⟩
def GState.d (x : GState) : List D := [.sl (x.fConf.fLabels.map sD), .sl (x.fConf.fQueues.map GQueue.d), .sl (x.fNodes.map GNode.d), .sl (x.fApps.map GApp.d), .sl (x.fConts.map GCont.d), .sl (x.fSlots.map GSlot.d), .sl (x.fPlans.map GPlan.d), .v (.int .i64 x.fNow), .v (.int .i64 x.fEpoch), .v (.int .i64 x.fSeq)]
def GState.c (x : GState) : List PV := [.d (.sl (x.fConf.fLabels.map sD)), .d (.sl (x.fConf.fQueues.map GQueue.d)), .d (.sl (x.fNodes.map GNode.d)), .d (.sl (x.fApps.map GApp.d)), .d (.sl (x.fConts.map GCont.d)), .d (.sl (x.fSlots.map GSlot.d)), .d (.sl (x.fPlans.map GPlan.d)), .d (.v (.int .i64 x.fNow)), .d (.v (.int .i64 x.fEpoch)), .d (.v (.int .i64 x.fSeq))]
theorem len_GState (l : List GState) : lenAll 10 (l.map GState.d) = True := lenAll_map (k := 10) GState.d (fun _ => rfl) l
structure GRawQueue_law5 where
  fNames : (List Int)
  fCaps : (List GCap)
  fUser : Int
def GRawQueue_law5.zero : GRawQueue_law5 := ⟨[], [], 0⟩
def GRawQueue_law5.d (x : GRawQueue_law5) : List D := [.sl (x.fNames.map iD), .sl (x.fCaps.map GCap.d), .v (.int .i64 x.fUser)]
def GRawQueue_law5.c (x : GRawQueue_law5) : List PV := [.d (.sl (x.fNames.map iD)), .d (.sl (x.fCaps.map GCap.d)), .d (.v (.int .i64 x.fUser))]
theorem len_GRawQueue_law5 (l : List GRawQueue_law5) : lenAll 3 (l.map GRawQueue_law5.d) = True := lenAll_map (k := 3) GRawQueue_law5.d (fun _ => rfl) l
structure GRaw_law5 where
  fLabels : Int
  fQueues : (List GRawQueue_law5)
def GRaw_law5.zero : GRaw_law5 := ⟨0, []⟩
def GRaw_law5.d (x : GRaw_law5) : List D := [.v (.int .i64 x.fLabels), .sl (x.fQueues.map GRawQueue_law5.d)]
def GRaw_law5.c (x : GRaw_law5) : List PV := [.d (.v (.int .i64 x.fLabels)), .d (.sl (x.fQueues.map GRawQueue_law5.d))]
theorem len_GRaw_law5 (l : List GRaw_law5) : lenAll 2 (l.map GRaw_law5.d) = True := lenAll_map (k := 2) GRaw_law5.d (fun _ => rfl) l
structure GAct_law7 where
  fKind : Int
  fA : Int
  fB : Int
  fC : Int
  fD : Int
def GAct_law7.zero : GAct_law7 := ⟨0, 0, 0, 0, 0⟩
def GAct_law7.d (x : GAct_law7) : List D := [.v (.int .i64 x.fKind), .v (.int .i64 x.fA), .v (.int .i64 x.fB), .v (.int .i64 x.fC), .v (.int .i64 x.fD)]
def GAct_law7.c (x : GAct_law7) : List PV := [.d (.v (.int .i64 x.fKind)), .d (.v (.int .i64 x.fA)), .d (.v (.int .i64 x.fB)), .d (.v (.int .i64 x.fC)), .d (.v (.int .i64 x.fD))]
theorem len_GAct_law7 (l : List GAct_law7) : lenAll 5 (l.map GAct_law7.d) = True := lenAll_map (k := 5) GAct_law7.d (fun _ => rfl) l
structure GScript_law7 where
  fShape : Int
  fNs : (List Int)
  fActs : (List GAct_law7)
def GScript_law7.zero : GScript_law7 := ⟨0, [], []⟩
def GScript_law7.d (x : GScript_law7) : List D := [.v (.int .i64 x.fShape), .sl (x.fNs.map iD), .sl (x.fActs.map GAct_law7.d)]
def GScript_law7.c (x : GScript_law7) : List PV := [.d (.v (.int .i64 x.fShape)), .d (.sl (x.fNs.map iD)), .d (.sl (x.fActs.map GAct_law7.d))]
theorem len_GScript_law7 (l : List GScript_law7) : lenAll 3 (l.map GScript_law7.d) = True := lenAll_map (k := 3) GScript_law7.d (fun _ => rfl) l
structure Gfrac_ref1 where
  fA : Int
  fP : Int
def Gfrac_ref1.zero : Gfrac_ref1 := ⟨0, 0⟩
def Gfrac_ref1.d (x : Gfrac_ref1) : List D := [.v (.int .i64 x.fA), .v (.int .i64 x.fP)]
def Gfrac_ref1.c (x : Gfrac_ref1) : List PV := [.d (.v (.int .i64 x.fA)), .d (.v (.int .i64 x.fP))]
theorem len_Gfrac_ref1 (l : List Gfrac_ref1) : lenAll 2 (l.map Gfrac_ref1.d) = True := lenAll_map (k := 2) Gfrac_ref1.d (fun _ => rfl) l
structure GShare_ref16 where
  fPath : ByteArray
  fMem : Int
def GShare_ref16.zero : GShare_ref16 := ⟨⟨#[]⟩, 0⟩
def GShare_ref16.d (x : GShare_ref16) : List D := [.v (.string x.fPath), .v (.int .i64 x.fMem)]
def GShare_ref16.c (x : GShare_ref16) : List PV := [.d (.v (.string x.fPath)), .d (.v (.int .i64 x.fMem))]
theorem len_GShare_ref16 (l : List GShare_ref16) : lenAll 2 (l.map GShare_ref16.d) = True := lenAll_map (k := 2) GShare_ref16.d (fun _ => rfl) l
structure Gload_order where
  fpath : ByteArray
  fused : GVec
  fleast : GVec
def Gload_order.zero : Gload_order := ⟨⟨#[]⟩, GVec.zero, GVec.zero⟩
def Gload_order.d (x : Gload_order) : List D := [.v (.string x.fpath), .v (.int .i64 x.fused.fMem), .v (.int .i64 x.fused.fCores), .v (.int .i64 x.fleast.fMem), .v (.int .i64 x.fleast.fCores)]
def Gload_order.c (x : Gload_order) : List PV := [.d (.v (.string x.fpath)), .d (.v (.int .i64 x.fused.fMem)), .d (.v (.int .i64 x.fused.fCores)), .d (.v (.int .i64 x.fleast.fMem)), .d (.v (.int .i64 x.fleast.fCores))]
theorem len_Gload_order (l : List Gload_order) : lenAll 5 (l.map Gload_order.d) = True := lenAll_map (k := 5) Gload_order.d (fun _ => rfl) l
structure Gbranch_qtree where
  fpath : ByteArray
  fis : Bool
def Gbranch_qtree.zero : Gbranch_qtree := ⟨⟨#[]⟩, false⟩
def Gbranch_qtree.d (x : Gbranch_qtree) : List D := [.v (.string x.fpath), .v (.bool x.fis)]
def Gbranch_qtree.c (x : Gbranch_qtree) : List PV := [.d (.v (.string x.fpath)), .d (.v (.bool x.fis))]
theorem len_Gbranch_qtree (l : List Gbranch_qtree) : lenAll 2 (l.map Gbranch_qtree.d) = True := lenAll_map (k := 2) Gbranch_qtree.d (fun _ => rfl) l
structure Ggrowth_qtree where
  fstate : GState
  flabel : Int
  fsize : GVec
def Ggrowth_qtree.zero : Ggrowth_qtree := ⟨GState.zero, 0, GVec.zero⟩
def Ggrowth_qtree.d (x : Ggrowth_qtree) : List D := [.sl (x.fstate.fConf.fLabels.map sD), .sl (x.fstate.fConf.fQueues.map GQueue.d), .sl (x.fstate.fNodes.map GNode.d), .sl (x.fstate.fApps.map GApp.d), .sl (x.fstate.fConts.map GCont.d), .sl (x.fstate.fSlots.map GSlot.d), .sl (x.fstate.fPlans.map GPlan.d), .v (.int .i64 x.fstate.fNow), .v (.int .i64 x.fstate.fEpoch), .v (.int .i64 x.fstate.fSeq), .v (.int .i64 x.flabel), .v (.int .i64 x.fsize.fMem), .v (.int .i64 x.fsize.fCores)]
def Ggrowth_qtree.c (x : Ggrowth_qtree) : List PV := [.d (.sl (x.fstate.fConf.fLabels.map sD)), .d (.sl (x.fstate.fConf.fQueues.map GQueue.d)), .d (.sl (x.fstate.fNodes.map GNode.d)), .d (.sl (x.fstate.fApps.map GApp.d)), .d (.sl (x.fstate.fConts.map GCont.d)), .d (.sl (x.fstate.fSlots.map GSlot.d)), .d (.sl (x.fstate.fPlans.map GPlan.d)), .d (.v (.int .i64 x.fstate.fNow)), .d (.v (.int .i64 x.fstate.fEpoch)), .d (.v (.int .i64 x.fstate.fSeq)), .d (.v (.int .i64 x.flabel)), .d (.v (.int .i64 x.fsize.fMem)), .d (.v (.int .i64 x.fsize.fCores))]
theorem len_Ggrowth_qtree (l : List Ggrowth_qtree) : lenAll 13 (l.map Ggrowth_qtree.d) = True := lenAll_map (k := 13) Ggrowth_qtree.d (fun _ => rfl) l
structure Guse_qtree where
  flabel : Int
  fuser : Int
def Guse_qtree.zero : Guse_qtree := ⟨0, 0⟩
def Guse_qtree.d (x : Guse_qtree) : List D := [.v (.int .i64 x.flabel), .v (.int .i64 x.fuser)]
def Guse_qtree.c (x : Guse_qtree) : List PV := [.d (.v (.int .i64 x.flabel)), .d (.v (.int .i64 x.fuser))]
theorem len_Guse_qtree (l : List Guse_qtree) : lenAll 2 (l.map Guse_qtree.d) = True := lenAll_map (k := 2) Guse_qtree.d (fun _ => rfl) l
structure Gvec_rvec where
  fMem : Int
  fCores : Int
def Gvec_rvec.zero : Gvec_rvec := ⟨0, 0⟩
def Gvec_rvec.d (x : Gvec_rvec) : List D := [.v (.int .i64 x.fMem), .v (.int .i64 x.fCores)]
def Gvec_rvec.c (x : Gvec_rvec) : List PV := [.d (.v (.int .i64 x.fMem)), .d (.v (.int .i64 x.fCores))]
theorem len_Gvec_rvec (l : List Gvec_rvec) : lenAll 2 (l.map Gvec_rvec.d) = True := lenAll_map (k := 2) Gvec_rvec.d (fun _ => rfl) l
structure Gbounds_share where
  fLeast : Int
  fMost : Int
def Gbounds_share.zero : Gbounds_share := ⟨0, 0⟩
def Gbounds_share.d (x : Gbounds_share) : List D := [.v (.int .i64 x.fLeast), .v (.int .i64 x.fMost)]
def Gbounds_share.c (x : Gbounds_share) : List PV := [.d (.v (.int .i64 x.fLeast)), .d (.v (.int .i64 x.fMost))]
theorem len_Gbounds_share (l : List Gbounds_share) : lenAll 2 (l.map Gbounds_share.d) = True := lenAll_map (k := 2) Gbounds_share.d (fun _ => rfl) l
end Go.Proofs.Ytjeeclabnimbbaa

/- Loops as plain recursion: that they come to an end; loops over a list, as scans. -/
namespace Go.Proofs.Ytjeeclabnimbbaa
open Go.RowKit
section
variable {α σ τ S : Type}
/-- A loop that keeps I, and whose measure falls, ends; what it ends with is as each last round says. -/
theorem loopO_post {f : σ → Option (σ ⊕ τ)} (I : σ → Prop) (μ : σ → Nat) (Q : τ → Prop) (h : ∀ s, I s → (∃ s', f s = some (.inl s') ∧ I s' ∧ μ s' < μ s) ∨ (∃ r, f s = some (.inr r) ∧ Q r)) : ∀ (N : Nat) (s : σ), I s → μ s < N → ∃ r, loopO f N s = some r ∧ Q r
  | 0, s, _, hm => absurd hm (Nat.not_lt_zero _)
  | N + 1, s, hI, hm => by
    rcases h s hI with ⟨s', h1, h2, h3⟩ | ⟨r, h1, h2⟩
    · obtain ⟨r, h4, h5⟩ := loopO_post I μ Q h N s' h2 (by omega)
      exact ⟨r, by simp only [loopO, h1]; exact h4, h5⟩
    · exact ⟨r, by simp only [loopO, h1], h2⟩
/-- Along a list, till one says that it is done. -/
def scanO (g : σ → α → Option (σ ⊕ τ)) (fin : σ → τ) : σ → List α → Option τ
  | a, [] => some (fin a)
  | a, x :: l => match g a x with
    | none => none
    | some (.inl a') => scanO g fin a' l
    | some (.inr r) => some r
/-- The same, with the place. -/
def scanI (g : σ → Int → α → Option (σ ⊕ τ)) (fin : σ → τ) : σ → Nat → List α → Option τ
  | a, _, [] => some (fin a)
  | a, k, x :: l => match g a (k : Int) x with
    | none => none
    | some (.inl a') => scanI g fin a' (k + 1) l
    | some (.inr r) => some r
theorem loopO_scanI_at (l : List α) (mk : σ → Int → S) (f : S → Option (S ⊕ τ)) (g : σ → Int → α → Option (σ ⊕ τ)) (fin : σ → τ)
    (hstep : ∀ (k : Nat) (a : σ) (x : α), l[k]? = some x → f (mk a (k : Int)) = (g a (k : Int) x).map (fun o => match o with | .inl a' => .inl (mk a' ((k + 1 : Nat) : Int)) | .inr r => .inr r))
    (hend : ∀ a, f (mk a (l.length : Int)) = some (.inr (fin a))) : ∀ (N k : Nat) (a : σ), k ≤ l.length → l.length - k < N → loopO f N (mk a (k : Int)) = scanI g fin a k (l.drop k)
  | 0, k, a, _, hN => absurd hN (Nat.not_lt_zero _)
  | N + 1, k, a, hk, hN => by
    by_cases hlt : k < l.length
    · have hx : l[k]? = some l[k] := List.getElem?_eq_getElem hlt
      have hd : l.drop k = l[k] :: l.drop (k + 1) := (List.getElem_cons_drop hlt).symm
      rw [hd]
      simp only [loopO, hstep k a _ hx, scanI]
      cases hg : g a (k : Int) l[k] with
      | none => rfl
      | some o =>
        cases o with
        | inl a' => exact loopO_scanI_at l mk f g fin hstep hend N (k + 1) a' hlt (by omega)
        | inr r => rfl
    · have : k = l.length := by omega
      subst this
      simp only [loopO, hend a, List.drop_length, scanI]
theorem loopO_scanI (l : List α) (mk : σ → Int → S) {f : S → Option (S ⊕ τ)} (g : σ → Int → α → Option (σ ⊕ τ)) (fin : σ → τ) {N : Nat} (hN : l.length < N)
    (hstep : ∀ (k : Nat) (a : σ) (x : α), l[k]? = some x → f (mk a (k : Int)) = (g a (k : Int) x).map (fun o => match o with | .inl a' => .inl (mk a' ((k + 1 : Nat) : Int)) | .inr r => .inr r))
    (hend : ∀ a, f (mk a (l.length : Int)) = some (.inr (fin a))) (a : σ) : loopO f N (mk a 0) = scanI g fin a 0 l := by
  have := loopO_scanI_at l mk f g fin hstep hend N 0 a (Nat.zero_le _) (by omega)
  rwa [List.drop_zero] at this
theorem iteB {γ : Type} {c : Prop} [Decidable c] {a a' b b' : γ} (h1 : a = a') (h2 : b = b') : (if c then a else b) = if c then a' else b' := by rw [h1, h2]
theorem map_bindO {β γ δ : Type} (o : Option β) (k : β → Option γ) (f : γ → δ) : (o.bind k).map f = o.bind fun x => (k x).map f := by cases o <;> rfl
theorem map_iteO {γ δ : Type} {c : Bool} (a b : Option γ) (f : γ → δ) : (if c = true then a else b).map f = if c = true then a.map f else b.map f := by cases c <;> rfl
theorem map_lrO {β γ δ ε : Type} (o : β ⊕ γ) (a : β → Option δ) (b : γ → Option δ) (f : δ → ε) : (match o with | .inr y => b y | .inl x => a x).map f = match o with | .inr y => (b y).map f | .inl x => (a x).map f := by cases o <;> rfl
theorem loopO_scan_at (l : List α) (mk : σ → Int → S) (f : S → Option (S ⊕ τ)) (g : σ → α → Option (σ ⊕ τ)) (fin : σ → τ)
    (hstep : ∀ (k : Nat) (a : σ) (x : α), l[k]? = some x → f (mk a (k : Int)) = (g a x).map (fun o => match o with | .inl a' => .inl (mk a' ((k + 1 : Nat) : Int)) | .inr r => .inr r))
    (hend : ∀ a, f (mk a (l.length : Int)) = some (.inr (fin a))) : ∀ (N k : Nat) (a : σ), k ≤ l.length → l.length - k < N → loopO f N (mk a (k : Int)) = scanO g fin a (l.drop k)
  | 0, k, a, _, hN => absurd hN (Nat.not_lt_zero _)
  | N + 1, k, a, hk, hN => by
    by_cases hlt : k < l.length
    · have hx : l[k]? = some l[k] := List.getElem?_eq_getElem hlt
      have hd : l.drop k = l[k] :: l.drop (k + 1) := (List.getElem_cons_drop hlt).symm
      rw [hd]
      simp only [loopO, hstep k a _ hx, scanO]
      cases hg : g a l[k] with
      | none => rfl
      | some o =>
        cases o with
        | inl a' => exact loopO_scan_at l mk f g fin hstep hend N (k + 1) a' hlt (by omega)
        | inr r => rfl
    · have : k = l.length := by omega
      subst this
      simp only [loopO, hend a, List.drop_length, scanO]
/-- A loop over a list from its start. -/
theorem loopO_scan (l : List α) (mk : σ → Int → S) {f : S → Option (S ⊕ τ)} (g : σ → α → Option (σ ⊕ τ)) (fin : σ → τ) {N : Nat} (hN : l.length < N)
    (hstep : ∀ (k : Nat) (a : σ) (x : α), l[k]? = some x → f (mk a (k : Int)) = (g a x).map (fun o => match o with | .inl a' => .inl (mk a' ((k + 1 : Nat) : Int)) | .inr r => .inr r))
    (hend : ∀ a, f (mk a (l.length : Int)) = some (.inr (fin a))) (a : σ) : loopO f N (mk a 0) = scanO g fin a l := by
  have := loopO_scan_at l mk f g fin hstep hend N 0 a (Nat.zero_le _) (by omega)
  rwa [List.drop_zero] at this
/-- How far a walk goes whose test holds of the first ones. -/
theorem loopO_upto_at (l : List α) (p : α → Bool) {f : Int → Option (Int ⊕ Int)} (hstep : ∀ (k : Nat) (x : α), l[k]? = some x → f (k : Int) = if p x = true then some (.inl ((k + 1 : Nat) : Int)) else some (.inr (k : Int))) (hend : f (l.length : Int) = some (.inr (l.length : Int))) :
    ∀ (N k : Nat), k ≤ l.length → l.length - k < N → loopO f N (k : Int) = some ((k + ((l.drop k).takeWhile p).length : Nat) : Int)
  | 0, k, _, hN => absurd hN (Nat.not_lt_zero _)
  | N + 1, k, hk, hN => by
    by_cases hlt : k < l.length
    · have hx : l[k]? = some l[k] := List.getElem?_eq_getElem hlt
      have hd : l.drop k = l[k] :: l.drop (k + 1) := (List.getElem_cons_drop hlt).symm
      simp only [loopO, hstep k _ hx]
      rw [hd, List.takeWhile_cons]
      cases hp : p l[k] with
      | true =>
        simp only [if_true]
        rw [loopO_upto_at l p hstep hend N (k + 1) hlt (by omega)]
        simp only [List.length_cons]
        congr 2
        omega
      | false => simp
    · have : k = l.length := by omega
      subst this
      simp only [loopO, hend, List.drop_length, List.takeWhile_nil, List.length_nil, Nat.add_zero]
theorem loopO_upto (l : List α) (p : α → Bool) {f : Int → Option (Int ⊕ Int)} {N : Nat} (hN : l.length < N) (hstep : ∀ (k : Nat) (x : α), l[k]? = some x → f (k : Int) = if p x = true then some (.inl ((k + 1 : Nat) : Int)) else some (.inr (k : Int))) (hend : f (l.length : Int) = some (.inr (l.length : Int))) :
    loopO f N 0 = some ((l.takeWhile p).length : Int) := by
  have := loopO_upto_at l p hstep hend N 0 (Nat.zero_le _) (by omega)
  simpa using this
theorem takeWhile_le (p : α → Bool) (l : List α) : (l.takeWhile p).length ≤ l.length := (List.takeWhile_sublist p).length_le
theorem hiO_at {l : List α} {k : Nat} (h : k ≤ l.length) : hiO l (k : Int) = some (l.take k) := by
  unfold hiO
  rw [if_pos ⟨Int.natCast_nonneg k, by rw [Int.toNat_natCast]; exact h⟩, Int.toNat_natCast]
theorem loO_at {l : List α} {k : Nat} (h : k ≤ l.length) : loO l (k : Int) = some (l.drop k) := by
  unfold loO
  rw [if_pos ⟨Int.natCast_nonneg k, by rw [Int.toNat_natCast]; exact h⟩, Int.toNat_natCast]
theorem appO_at {l m : List α} (h : l.length + m.length ≤ 1000000) : appO l m = some (l ++ m) := by unfold appO; rw [if_pos h]
/-- A scan each of whose rounds goes well: I speaks of how many are behind. -/
theorem scanO_post {g : σ → α → Option (σ ⊕ τ)} {fin : σ → τ} (I : Nat → σ → Prop) (Q : τ → Prop) : ∀ (l : List α) (k : Nat) (a : σ), (∀ (j : Nat) (a : σ) (x : α), l[j]? = some x → I (k + j) a → ∃ o, g a x = some o ∧ (∀ a', o = .inl a' → I (k + j + 1) a') ∧ ∀ r, o = .inr r → Q r) → (∀ a, I (k + l.length) a → Q (fin a)) → I k a → ∃ r, scanO g fin a l = some r ∧ Q r
  | [], k, a, _, hf, hI => ⟨fin a, rfl, hf a hI⟩
  | x :: l, k, a, h, hf, hI => by
    obtain ⟨o, h1, h2, h3⟩ := h 0 a x rfl hI
    cases o with
    | inl a' =>
      obtain ⟨r, h4, h5⟩ := scanO_post I Q l (k + 1) a' (fun j a x hj hI => by
        have := h (j + 1) a x hj (by rw [show k + (j + 1) = k + 1 + j by omega]; exact hI)
        rw [show k + (j + 1) + 1 = k + 1 + j + 1 by omega] at this
        exact this) (fun a hI => hf a (by rw [List.length_cons, show k + (l.length + 1) = k + 1 + l.length by omega]; exact hI)) (h2 a' rfl)
      exact ⟨r, by simp only [scanO, h1]; exact h4, h5⟩
    | inr r => exact ⟨r, by simp only [scanO, h1], h3 r rfl⟩
theorem idxO_inn {l : List α} {i : Int} (h0 : 0 ≤ i) (h1 : i < (l.length : Int)) : ∃ x, idxO l i = some x ∧ x ∈ l := by
  unfold idxO
  rw [if_pos h0]
  have : i.toNat < l.length := by omega
  exact ⟨l[i.toNat], List.getElem?_eq_getElem this, List.getElem_mem this⟩
theorem orB (a b : Bool) : (if a = true then some true else some b) = some (a || b) := by cases a <;> rfl
theorem andB (a b : Bool) : (if a = true then some b else some false) = some (a && b) := by cases a <;> rfl
/-- What a list's elements of a kind come to, one by one. -/
theorem scanO_filter (p : α → Bool) (q : α → σ) {ρ : Type} (fin : List σ → ρ) : ∀ (l : List α) (acc : List σ), acc.length + l.length ≤ 1000000 → scanO (fun acc x => if p x = true then (appO acc [q x]).map (fun a => (.inl a : List σ ⊕ ρ)) else some (.inl acc)) fin acc l = some (fin (acc ++ (l.filter p).map q))
  | [], acc, _ => by simp [scanO]
  | x :: l, acc, h => by
    simp only [List.length_cons] at h
    simp only [scanO, List.filter_cons]
    cases hp : p x with
    | true =>
      simp only [if_true, appO_at (show acc.length + [q x].length ≤ 1000000 by simp; omega), Option.map_some]
      rw [scanO_filter p q fin l _ (by simp; omega)]
      simp
    | false => simpa using scanO_filter p q fin l acc (by omega)
/-- An element is put in the order of keys, in the place of the one with its key. -/
def putKey (key : α → Int) (l : List α) (a : α) : List α :=
  l.take (l.takeWhile fun x => decide (key x < key a)).length ++ a :: l.drop (match l[(l.takeWhile fun x => decide (key x < key a)).length]? with | some x => if (key x == key a) = true then (l.takeWhile fun x => decide (key x < key a)).length + 1 else (l.takeWhile fun x => decide (key x < key a)).length | none => (l.takeWhile fun x => decide (key x < key a)).length)
theorem idxO_at {l : List α} {k : Nat} {x : α} (h : l[k]? = some x) : idxO l (k : Int) = some x := by
  unfold idxO
  rw [if_pos (Int.natCast_nonneg k), Int.toNat_natCast, h]
theorem ltD_at {l : List α} {k : Nat} {x : α} (h : l[k]? = some x) : decide ((k : Int) < (l.length : Int)) = true := by
  have := (List.getElem?_eq_some_iff.1 h).1
  simpa using this
theorem ltD_end (l : List α) : decide ((l.length : Int) < (l.length : Int)) = false := by simp
theorem wrap_at {k n : Nat} (h : k < n) (hn : n ≤ 1000000) : IntKind.i64.wrap ((k : Int) + 1) = ((k + 1 : Nat) : Int) := snocK k (by omega)
theorem lt_rounds {n : Nat} (h : n ≤ 1000000) : n < rounds := by unfold rounds; omega
/-- Where nothing stops it, a scan is a fold. -/
theorem scanO_fold (h : σ → α → σ) (fin : σ → τ) : ∀ (l : List α) (a : σ), scanO (fun a x => some (.inl (h a x))) fin a l = some (fin (l.foldl h a))
  | [], _ => rfl
  | x :: l, a => scanO_fold h fin l (h a x)
/-- The first of a kind. -/
theorem scanO_find (p : α → Bool) (q : α → τ) (d : τ) : ∀ l : List α, scanO (fun (_ : Unit) x => if p x = true then some (.inr (q x)) else some (.inl ())) (fun _ => d) () l = some (((l.find? p).map q).getD d)
  | [] => rfl
  | x :: l => by
    simp only [scanO, List.find?_cons]
    cases hp : p x with
    | true => rfl
    | false => simpa using scanO_find p q d l
end
end Go.Proofs.Ytjeeclabnimbbaa

/- The typed executor: types of data. -/
namespace Go.Proofs.Ytjeeclabnimbbaa
open Go.RowKit

/-- Types of what lies in one cell, or in an element of a slice; st i is the struct of number i. -/
inductive Ty where
  | int (k : IntKind)
  | bool
  | str
  | sl (t : Ty)
  | st (i : Nat)
def Ty.same : (a b : Ty) → Option (PLift (a = b))
  | .int j, .int k => if h : j = k then some ⟨by rw [h]⟩ else none
  | .bool, .bool => some ⟨rfl⟩
  | .str, .str => some ⟨rfl⟩
  | .sl a, .sl b => match Ty.same a b with | some ⟨h⟩ => some ⟨by rw [h]⟩ | none => none
  | .st i, .st j => if h : i = j then some ⟨by rw [h]⟩ else none
  | _, _ => none
def lhO {α : Type} (l : List α) (a b : Int) : Option (List α) := if 0 ≤ a ∧ 0 ≤ b ∧ a.toNat ≤ b.toNat ∧ b.toNat ≤ l.length then some ((l.drop a.toNat).take (b.toNat - a.toNat)) else none
end Go.Proofs.Ytjeeclabnimbbaa

/- The structs, by number (written by gen_st.py). -/
namespace Go.Proofs.Ytjeeclabnimbbaa
open Go.RowKit
def ST : Nat → Type
  | 0 => GVec
  | 1 => GAsk
  | 2 => GApp
  | 3 => GCap
  | 4 => GQueue
  | 5 => GConf
  | 6 => GCont
  | 7 => GNode
  | 8 => GPlan
  | 9 => GInput
  | 10 => GOutput
  | 11 => GSlot
  | 12 => GState
  | 13 => GRawQueue_law5
  | 14 => GRaw_law5
  | 15 => GAct_law7
  | 16 => GScript_law7
  | 17 => Gfrac_ref1
  | 18 => GShare_ref16
  | 19 => Gload_order
  | 20 => Gbranch_qtree
  | 21 => Ggrowth_qtree
  | 22 => Guse_qtree
  | 23 => Gvec_rvec
  | 24 => Gbounds_share
  | _ => Unit
def Ty.den : Ty → Type
  | .int _ => Int
  | .bool => Bool
  | .str => ByteArray
  | .sl t => List (Ty.den t)
  | .st i => ST i
/-- One cell. -/
inductive SD where
  | int (k : IntKind) (x : Int)
  | bool (b : Bool)
  | str (s : ByteArray)
  | sl (t : Ty) (xs : List t.den)
  | nl
def stD : (i : Nat) → ST i → List D
  | 0, x => GVec.d x
  | 1, x => GAsk.d x
  | 2, x => GApp.d x
  | 3, x => GCap.d x
  | 4, x => GQueue.d x
  | 5, x => GConf.d x
  | 6, x => GCont.d x
  | 7, x => GNode.d x
  | 8, x => GPlan.d x
  | 9, x => GInput.d x
  | 10, x => GOutput.d x
  | 11, x => GSlot.d x
  | 12, x => GState.d x
  | 13, x => GRawQueue_law5.d x
  | 14, x => GRaw_law5.d x
  | 15, x => GAct_law7.d x
  | 16, x => GScript_law7.d x
  | 17, x => Gfrac_ref1.d x
  | 18, x => GShare_ref16.d x
  | 19, x => Gload_order.d x
  | 20, x => Gbranch_qtree.d x
  | 21, x => Ggrowth_qtree.d x
  | 22, x => Guse_qtree.d x
  | 23, x => Gvec_rvec.d x
  | 24, x => Gbounds_share.d x
  | _ + 25, _ => []
def encE : (t : Ty) → t.den → List D
  | .int k, x => [.v (.int k x)]
  | .bool, x => [.v (.bool x)]
  | .str, x => [.v (.string x)]
  | .sl t, xs => [.sl (List.map (encE t) xs)]
  | .st i, x => stD i x
def castL {t u : Ty} (h : t = u) (xs : List t.den) : List u.den := h ▸ xs
def SD.toD : SD → D
  | .int k x => .v (.int k x)
  | .bool x => .v (.bool x)
  | .str x => .v (.string x)
  | .sl t xs => .sl (List.map (encE t) xs)
  | .nl => .sl []
def SD.as : (t : Ty) → SD → Option t.den
  | .int k, .int k' x => if k' = k then some x else none
  | .bool, .bool x => some x
  | .str, .str x => some x
  | .sl t, .sl t' xs => match Ty.same t' t with | some ⟨h⟩ => some (castL h xs) | none => none
  | .sl t, .nl => some ([] : List t.den)
  | _, _ => none
def enc1 : (t : Ty) → t.den → SD
  | .int k, x => .int k x
  | .bool, x => .bool x
  | .str, x => .str x
  | .sl t, xs => .sl t xs
  | .st _, _ => .nl
def stN : Nat → Nat
  | 0 => 2
  | 1 => 8
  | 2 => 14
  | 3 => 2
  | 4 => 3
  | 5 => 2
  | 6 => 9
  | 7 => 8
  | 8 => 6
  | 9 => 35
  | 10 => 5
  | 11 => 3
  | 12 => 10
  | 13 => 3
  | 14 => 2
  | 15 => 5
  | 16 => 3
  | 17 => 2
  | 18 => 2
  | 19 => 5
  | 20 => 2
  | 21 => 13
  | 22 => 2
  | 23 => 2
  | 24 => 2
  | _ => 0
def stOf : TypeId → Option Nat
  | 38 => some 0
  | 107 => some 1
  | 57 => some 2
  | 43 => some 3
  | 46 => some 4
  | 27 => some 5
  | 64 => some 6
  | 40 => some 7
  | 105 => some 8
  | 76 => some 11
  | 34 => some 12
  | 139 => some 23
  | 80 => some 24
  | _ => none
/-- May it be kept without the memory? -/
def stF : Nat → Bool
  | 0 => true
  | 1 => true
  | 2 => false
  | 3 => true
  | 4 => false
  | 5 => false
  | 6 => true
  | 7 => true
  | 8 => true
  | 9 => false
  | 10 => false
  | 11 => true
  | 12 => false
  | 13 => false
  | 14 => false
  | 15 => true
  | 16 => false
  | 17 => true
  | 18 => true
  | 19 => true
  | 20 => true
  | 21 => false
  | 22 => true
  | 23 => true
  | 24 => true
  | _ => true
def stC : (i : Nat) → ST i → List SD
  | 0, (x : GVec) => [.int .i64 x.fMem, .int .i64 x.fCores]
  | 1, (x : GAsk) => [.int .i64 x.fPrio, .int .i64 x.fLabel, .int .i64 x.fSize.fMem, .int .i64 x.fSize.fCores, .int .i64 x.fCount, .int .i64 x.fNode, .int .i64 x.fRack, .int .i64 x.fMissed]
  | 2, (x : GApp) => [.int .i64 x.fId, .int .i64 x.fState, .str x.fQueue, .int .i64 x.fUser, .int .i64 x.fPrio, .int .i64 x.fMaster.fMem, .int .i64 x.fMaster.fCores, .sl (.st 1) x.fAsks, .int .i64 x.fSeen, .int .i64 x.fBeat, .sl (.int .i64) x.fGrants, .sl (.int .i64) x.fKills, .sl (.int .i64) x.fTold, .sl (.int .i64) x.fLost]
  | 3, (x : GCap) => [.int .i64 x.fLeast, .int .i64 x.fMost]
  | 4, (x : GQueue) => [.str x.fPath, .sl (.st 3) x.fCaps, .int .i64 x.fUser]
  | 5, (x : GConf) => [.sl (.str) x.fLabels, .sl (.st 4) x.fQueues]
  | 6, (x : GCont) => [.int .i64 x.fId, .int .i64 x.fApp, .int .i64 x.fNode, .int .i64 x.fSize.fMem, .int .i64 x.fSize.fCores, .int .i64 x.fPrio, .int .i64 x.fLabel, .bool x.fMaster, .int .i64 x.fNotice]
  | 7, (x : GNode) => [.int .i64 x.fId, .int .i64 x.fLabel, .int .i64 x.fRack, .int .i64 x.fCap.fMem, .int .i64 x.fCap.fCores, .int .i64 x.fSeen, .int .i64 x.fBeat, .bool x.fUp]
  | 8, (x : GPlan) => [.int .i64 x.fId, .int .i64 x.fLabel, .int .i64 x.fFrom, .int .i64 x.fUntil, .int .i64 x.fNeed.fMem, .int .i64 x.fNeed.fCores]
  | 9, (x : GInput) => [.int .i64 x.fKind, .int .i64 x.fId, .int .i64 x.fBeat, .int .i64 x.fN, .str x.fText, .int .i64 x.fNode.fId, .int .i64 x.fNode.fLabel, .int .i64 x.fNode.fRack, .int .i64 x.fNode.fCap.fMem, .int .i64 x.fNode.fCap.fCores, .int .i64 x.fNode.fSeen, .int .i64 x.fNode.fBeat, .bool x.fNode.fUp, .int .i64 x.fApp.fId, .int .i64 x.fApp.fState, .str x.fApp.fQueue, .int .i64 x.fApp.fUser, .int .i64 x.fApp.fPrio, .int .i64 x.fApp.fMaster.fMem, .int .i64 x.fApp.fMaster.fCores, .sl (.st 1) x.fApp.fAsks, .int .i64 x.fApp.fSeen, .int .i64 x.fApp.fBeat, .sl (.int .i64) x.fApp.fGrants, .sl (.int .i64) x.fApp.fKills, .sl (.int .i64) x.fApp.fTold, .sl (.int .i64) x.fApp.fLost, .sl (.st 1) x.fAsks, .sl (.int .i64) x.fIds, .int .i64 x.fPlan.fId, .int .i64 x.fPlan.fLabel, .int .i64 x.fPlan.fFrom, .int .i64 x.fPlan.fUntil, .int .i64 x.fPlan.fNeed.fMem, .int .i64 x.fPlan.fNeed.fCores]
  | 10, (x : GOutput) => [.int .i64 x.fErr, .sl (.st 6) x.fConts, .sl (.int .i64) x.fIds, .sl (.int .i64) x.fGone, .int .i64 x.fN]
  | 11, (x : GSlot) => [.int .i64 x.fNode, .int .i64 x.fApp, .int .i64 x.fPrio]
  | 12, (x : GState) => [.sl (.str) x.fConf.fLabels, .sl (.st 4) x.fConf.fQueues, .sl (.st 7) x.fNodes, .sl (.st 2) x.fApps, .sl (.st 6) x.fConts, .sl (.st 11) x.fSlots, .sl (.st 8) x.fPlans, .int .i64 x.fNow, .int .i64 x.fEpoch, .int .i64 x.fSeq]
  | 13, (x : GRawQueue_law5) => [.sl (.int .i64) x.fNames, .sl (.st 3) x.fCaps, .int .i64 x.fUser]
  | 14, (x : GRaw_law5) => [.int .i64 x.fLabels, .sl (.st 13) x.fQueues]
  | 15, (x : GAct_law7) => [.int .i64 x.fKind, .int .i64 x.fA, .int .i64 x.fB, .int .i64 x.fC, .int .i64 x.fD]
  | 16, (x : GScript_law7) => [.int .i64 x.fShape, .sl (.int .i64) x.fNs, .sl (.st 15) x.fActs]
  | 17, (x : Gfrac_ref1) => [.int .i64 x.fA, .int .i64 x.fP]
  | 18, (x : GShare_ref16) => [.str x.fPath, .int .i64 x.fMem]
  | 19, (x : Gload_order) => [.str x.fpath, .int .i64 x.fused.fMem, .int .i64 x.fused.fCores, .int .i64 x.fleast.fMem, .int .i64 x.fleast.fCores]
  | 20, (x : Gbranch_qtree) => [.str x.fpath, .bool x.fis]
  | 21, (x : Ggrowth_qtree) => [.sl (.str) x.fstate.fConf.fLabels, .sl (.st 4) x.fstate.fConf.fQueues, .sl (.st 7) x.fstate.fNodes, .sl (.st 2) x.fstate.fApps, .sl (.st 6) x.fstate.fConts, .sl (.st 11) x.fstate.fSlots, .sl (.st 8) x.fstate.fPlans, .int .i64 x.fstate.fNow, .int .i64 x.fstate.fEpoch, .int .i64 x.fstate.fSeq, .int .i64 x.flabel, .int .i64 x.fsize.fMem, .int .i64 x.fsize.fCores]
  | 22, (x : Guse_qtree) => [.int .i64 x.flabel, .int .i64 x.fuser]
  | 23, (x : Gvec_rvec) => [.int .i64 x.fMem, .int .i64 x.fCores]
  | 24, (x : Gbounds_share) => [.int .i64 x.fLeast, .int .i64 x.fMost]
  | _ + 25, _ => []
def GVec.k : List SD → Option GVec
  | c0 :: c1 :: [] => Option.bind (c0.as (.int .i64)) fun x0 => Option.bind (c1.as (.int .i64)) fun x1 => some (⟨x0, x1⟩ : GVec)
  | _ => none
def GAsk.k : List SD → Option GAsk
  | c0 :: c1 :: c2 :: c3 :: c4 :: c5 :: c6 :: c7 :: [] => Option.bind (c0.as (.int .i64)) fun x0 => Option.bind (c1.as (.int .i64)) fun x1 => Option.bind (c2.as (.int .i64)) fun x2 => Option.bind (c3.as (.int .i64)) fun x3 => Option.bind (c4.as (.int .i64)) fun x4 => Option.bind (c5.as (.int .i64)) fun x5 => Option.bind (c6.as (.int .i64)) fun x6 => Option.bind (c7.as (.int .i64)) fun x7 => some (⟨x0, x1, ⟨x2, x3⟩, x4, x5, x6, x7⟩ : GAsk)
  | _ => none
def GApp.k : List SD → Option GApp
  | c0 :: c1 :: c2 :: c3 :: c4 :: c5 :: c6 :: c7 :: c8 :: c9 :: c10 :: c11 :: c12 :: c13 :: [] => Option.bind (c0.as (.int .i64)) fun x0 => Option.bind (c1.as (.int .i64)) fun x1 => Option.bind (c2.as (.str)) fun x2 => Option.bind (c3.as (.int .i64)) fun x3 => Option.bind (c4.as (.int .i64)) fun x4 => Option.bind (c5.as (.int .i64)) fun x5 => Option.bind (c6.as (.int .i64)) fun x6 => Option.bind (c7.as (.sl (.st 1))) fun x7 => Option.bind (c8.as (.int .i64)) fun x8 => Option.bind (c9.as (.int .i64)) fun x9 => Option.bind (c10.as (.sl (.int .i64))) fun x10 => Option.bind (c11.as (.sl (.int .i64))) fun x11 => Option.bind (c12.as (.sl (.int .i64))) fun x12 => Option.bind (c13.as (.sl (.int .i64))) fun x13 => some (⟨x0, x1, x2, x3, x4, ⟨x5, x6⟩, x7, x8, x9, x10, x11, x12, x13⟩ : GApp)
  | _ => none
def GCap.k : List SD → Option GCap
  | c0 :: c1 :: [] => Option.bind (c0.as (.int .i64)) fun x0 => Option.bind (c1.as (.int .i64)) fun x1 => some (⟨x0, x1⟩ : GCap)
  | _ => none
def GQueue.k : List SD → Option GQueue
  | c0 :: c1 :: c2 :: [] => Option.bind (c0.as (.str)) fun x0 => Option.bind (c1.as (.sl (.st 3))) fun x1 => Option.bind (c2.as (.int .i64)) fun x2 => some (⟨x0, x1, x2⟩ : GQueue)
  | _ => none
def GConf.k : List SD → Option GConf
  | c0 :: c1 :: [] => Option.bind (c0.as (.sl (.str))) fun x0 => Option.bind (c1.as (.sl (.st 4))) fun x1 => some (⟨x0, x1⟩ : GConf)
  | _ => none
def GCont.k : List SD → Option GCont
  | c0 :: c1 :: c2 :: c3 :: c4 :: c5 :: c6 :: c7 :: c8 :: [] => Option.bind (c0.as (.int .i64)) fun x0 => Option.bind (c1.as (.int .i64)) fun x1 => Option.bind (c2.as (.int .i64)) fun x2 => Option.bind (c3.as (.int .i64)) fun x3 => Option.bind (c4.as (.int .i64)) fun x4 => Option.bind (c5.as (.int .i64)) fun x5 => Option.bind (c6.as (.int .i64)) fun x6 => Option.bind (c7.as (.bool)) fun x7 => Option.bind (c8.as (.int .i64)) fun x8 => some (⟨x0, x1, x2, ⟨x3, x4⟩, x5, x6, x7, x8⟩ : GCont)
  | _ => none
def GNode.k : List SD → Option GNode
  | c0 :: c1 :: c2 :: c3 :: c4 :: c5 :: c6 :: c7 :: [] => Option.bind (c0.as (.int .i64)) fun x0 => Option.bind (c1.as (.int .i64)) fun x1 => Option.bind (c2.as (.int .i64)) fun x2 => Option.bind (c3.as (.int .i64)) fun x3 => Option.bind (c4.as (.int .i64)) fun x4 => Option.bind (c5.as (.int .i64)) fun x5 => Option.bind (c6.as (.int .i64)) fun x6 => Option.bind (c7.as (.bool)) fun x7 => some (⟨x0, x1, x2, ⟨x3, x4⟩, x5, x6, x7⟩ : GNode)
  | _ => none
def GPlan.k : List SD → Option GPlan
  | c0 :: c1 :: c2 :: c3 :: c4 :: c5 :: [] => Option.bind (c0.as (.int .i64)) fun x0 => Option.bind (c1.as (.int .i64)) fun x1 => Option.bind (c2.as (.int .i64)) fun x2 => Option.bind (c3.as (.int .i64)) fun x3 => Option.bind (c4.as (.int .i64)) fun x4 => Option.bind (c5.as (.int .i64)) fun x5 => some (⟨x0, x1, x2, x3, ⟨x4, x5⟩⟩ : GPlan)
  | _ => none
def GInput.k : List SD → Option GInput
  | c0 :: c1 :: c2 :: c3 :: c4 :: c5 :: c6 :: c7 :: c8 :: c9 :: c10 :: c11 :: c12 :: c13 :: c14 :: c15 :: c16 :: c17 :: c18 :: c19 :: c20 :: c21 :: c22 :: c23 :: c24 :: c25 :: c26 :: c27 :: c28 :: c29 :: c30 :: c31 :: c32 :: c33 :: c34 :: [] => Option.bind (c0.as (.int .i64)) fun x0 => Option.bind (c1.as (.int .i64)) fun x1 => Option.bind (c2.as (.int .i64)) fun x2 => Option.bind (c3.as (.int .i64)) fun x3 => Option.bind (c4.as (.str)) fun x4 => Option.bind (c5.as (.int .i64)) fun x5 => Option.bind (c6.as (.int .i64)) fun x6 => Option.bind (c7.as (.int .i64)) fun x7 => Option.bind (c8.as (.int .i64)) fun x8 => Option.bind (c9.as (.int .i64)) fun x9 => Option.bind (c10.as (.int .i64)) fun x10 => Option.bind (c11.as (.int .i64)) fun x11 => Option.bind (c12.as (.bool)) fun x12 => Option.bind (c13.as (.int .i64)) fun x13 => Option.bind (c14.as (.int .i64)) fun x14 => Option.bind (c15.as (.str)) fun x15 => Option.bind (c16.as (.int .i64)) fun x16 => Option.bind (c17.as (.int .i64)) fun x17 => Option.bind (c18.as (.int .i64)) fun x18 => Option.bind (c19.as (.int .i64)) fun x19 => Option.bind (c20.as (.sl (.st 1))) fun x20 => Option.bind (c21.as (.int .i64)) fun x21 => Option.bind (c22.as (.int .i64)) fun x22 => Option.bind (c23.as (.sl (.int .i64))) fun x23 => Option.bind (c24.as (.sl (.int .i64))) fun x24 => Option.bind (c25.as (.sl (.int .i64))) fun x25 => Option.bind (c26.as (.sl (.int .i64))) fun x26 => Option.bind (c27.as (.sl (.st 1))) fun x27 => Option.bind (c28.as (.sl (.int .i64))) fun x28 => Option.bind (c29.as (.int .i64)) fun x29 => Option.bind (c30.as (.int .i64)) fun x30 => Option.bind (c31.as (.int .i64)) fun x31 => Option.bind (c32.as (.int .i64)) fun x32 => Option.bind (c33.as (.int .i64)) fun x33 => Option.bind (c34.as (.int .i64)) fun x34 => some (⟨x0, x1, x2, x3, x4, ⟨x5, x6, x7, ⟨x8, x9⟩, x10, x11, x12⟩, ⟨x13, x14, x15, x16, x17, ⟨x18, x19⟩, x20, x21, x22, x23, x24, x25, x26⟩, x27, x28, ⟨x29, x30, x31, x32, ⟨x33, x34⟩⟩⟩ : GInput)
  | _ => none
def GOutput.k : List SD → Option GOutput
  | c0 :: c1 :: c2 :: c3 :: c4 :: [] => Option.bind (c0.as (.int .i64)) fun x0 => Option.bind (c1.as (.sl (.st 6))) fun x1 => Option.bind (c2.as (.sl (.int .i64))) fun x2 => Option.bind (c3.as (.sl (.int .i64))) fun x3 => Option.bind (c4.as (.int .i64)) fun x4 => some (⟨x0, x1, x2, x3, x4⟩ : GOutput)
  | _ => none
def GSlot.k : List SD → Option GSlot
  | c0 :: c1 :: c2 :: [] => Option.bind (c0.as (.int .i64)) fun x0 => Option.bind (c1.as (.int .i64)) fun x1 => Option.bind (c2.as (.int .i64)) fun x2 => some (⟨x0, x1, x2⟩ : GSlot)
  | _ => none
def GState.k : List SD → Option GState
  | c0 :: c1 :: c2 :: c3 :: c4 :: c5 :: c6 :: c7 :: c8 :: c9 :: [] => Option.bind (c0.as (.sl (.str))) fun x0 => Option.bind (c1.as (.sl (.st 4))) fun x1 => Option.bind (c2.as (.sl (.st 7))) fun x2 => Option.bind (c3.as (.sl (.st 2))) fun x3 => Option.bind (c4.as (.sl (.st 6))) fun x4 => Option.bind (c5.as (.sl (.st 11))) fun x5 => Option.bind (c6.as (.sl (.st 8))) fun x6 => Option.bind (c7.as (.int .i64)) fun x7 => Option.bind (c8.as (.int .i64)) fun x8 => Option.bind (c9.as (.int .i64)) fun x9 => some (⟨⟨x0, x1⟩, x2, x3, x4, x5, x6, x7, x8, x9⟩ : GState)
  | _ => none
def GRawQueue_law5.k : List SD → Option GRawQueue_law5
  | c0 :: c1 :: c2 :: [] => Option.bind (c0.as (.sl (.int .i64))) fun x0 => Option.bind (c1.as (.sl (.st 3))) fun x1 => Option.bind (c2.as (.int .i64)) fun x2 => some (⟨x0, x1, x2⟩ : GRawQueue_law5)
  | _ => none
def GRaw_law5.k : List SD → Option GRaw_law5
  | c0 :: c1 :: [] => Option.bind (c0.as (.int .i64)) fun x0 => Option.bind (c1.as (.sl (.st 13))) fun x1 => some (⟨x0, x1⟩ : GRaw_law5)
  | _ => none
def GAct_law7.k : List SD → Option GAct_law7
  | c0 :: c1 :: c2 :: c3 :: c4 :: [] => Option.bind (c0.as (.int .i64)) fun x0 => Option.bind (c1.as (.int .i64)) fun x1 => Option.bind (c2.as (.int .i64)) fun x2 => Option.bind (c3.as (.int .i64)) fun x3 => Option.bind (c4.as (.int .i64)) fun x4 => some (⟨x0, x1, x2, x3, x4⟩ : GAct_law7)
  | _ => none
def GScript_law7.k : List SD → Option GScript_law7
  | c0 :: c1 :: c2 :: [] => Option.bind (c0.as (.int .i64)) fun x0 => Option.bind (c1.as (.sl (.int .i64))) fun x1 => Option.bind (c2.as (.sl (.st 15))) fun x2 => some (⟨x0, x1, x2⟩ : GScript_law7)
  | _ => none
def Gfrac_ref1.k : List SD → Option Gfrac_ref1
  | c0 :: c1 :: [] => Option.bind (c0.as (.int .i64)) fun x0 => Option.bind (c1.as (.int .i64)) fun x1 => some (⟨x0, x1⟩ : Gfrac_ref1)
  | _ => none
def GShare_ref16.k : List SD → Option GShare_ref16
  | c0 :: c1 :: [] => Option.bind (c0.as (.str)) fun x0 => Option.bind (c1.as (.int .i64)) fun x1 => some (⟨x0, x1⟩ : GShare_ref16)
  | _ => none
def Gload_order.k : List SD → Option Gload_order
  | c0 :: c1 :: c2 :: c3 :: c4 :: [] => Option.bind (c0.as (.str)) fun x0 => Option.bind (c1.as (.int .i64)) fun x1 => Option.bind (c2.as (.int .i64)) fun x2 => Option.bind (c3.as (.int .i64)) fun x3 => Option.bind (c4.as (.int .i64)) fun x4 => some (⟨x0, ⟨x1, x2⟩, ⟨x3, x4⟩⟩ : Gload_order)
  | _ => none
def Gbranch_qtree.k : List SD → Option Gbranch_qtree
  | c0 :: c1 :: [] => Option.bind (c0.as (.str)) fun x0 => Option.bind (c1.as (.bool)) fun x1 => some (⟨x0, x1⟩ : Gbranch_qtree)
  | _ => none
def Ggrowth_qtree.k : List SD → Option Ggrowth_qtree
  | c0 :: c1 :: c2 :: c3 :: c4 :: c5 :: c6 :: c7 :: c8 :: c9 :: c10 :: c11 :: c12 :: [] => Option.bind (c0.as (.sl (.str))) fun x0 => Option.bind (c1.as (.sl (.st 4))) fun x1 => Option.bind (c2.as (.sl (.st 7))) fun x2 => Option.bind (c3.as (.sl (.st 2))) fun x3 => Option.bind (c4.as (.sl (.st 6))) fun x4 => Option.bind (c5.as (.sl (.st 11))) fun x5 => Option.bind (c6.as (.sl (.st 8))) fun x6 => Option.bind (c7.as (.int .i64)) fun x7 => Option.bind (c8.as (.int .i64)) fun x8 => Option.bind (c9.as (.int .i64)) fun x9 => Option.bind (c10.as (.int .i64)) fun x10 => Option.bind (c11.as (.int .i64)) fun x11 => Option.bind (c12.as (.int .i64)) fun x12 => some (⟨⟨⟨x0, x1⟩, x2, x3, x4, x5, x6, x7, x8, x9⟩, x10, ⟨x11, x12⟩⟩ : Ggrowth_qtree)
  | _ => none
def Guse_qtree.k : List SD → Option Guse_qtree
  | c0 :: c1 :: [] => Option.bind (c0.as (.int .i64)) fun x0 => Option.bind (c1.as (.int .i64)) fun x1 => some (⟨x0, x1⟩ : Guse_qtree)
  | _ => none
def Gvec_rvec.k : List SD → Option Gvec_rvec
  | c0 :: c1 :: [] => Option.bind (c0.as (.int .i64)) fun x0 => Option.bind (c1.as (.int .i64)) fun x1 => some (⟨x0, x1⟩ : Gvec_rvec)
  | _ => none
def Gbounds_share.k : List SD → Option Gbounds_share
  | c0 :: c1 :: [] => Option.bind (c0.as (.int .i64)) fun x0 => Option.bind (c1.as (.int .i64)) fun x1 => some (⟨x0, x1⟩ : Gbounds_share)
  | _ => none
def stK : (i : Nat) → List SD → Option (ST i)
  | 0, cs => GVec.k cs
  | 1, cs => GAsk.k cs
  | 2, cs => GApp.k cs
  | 3, cs => GCap.k cs
  | 4, cs => GQueue.k cs
  | 5, cs => GConf.k cs
  | 6, cs => GCont.k cs
  | 7, cs => GNode.k cs
  | 8, cs => GPlan.k cs
  | 9, cs => GInput.k cs
  | 10, cs => GOutput.k cs
  | 11, cs => GSlot.k cs
  | 12, cs => GState.k cs
  | 13, cs => GRawQueue_law5.k cs
  | 14, cs => GRaw_law5.k cs
  | 15, cs => GAct_law7.k cs
  | 16, cs => GScript_law7.k cs
  | 17, cs => Gfrac_ref1.k cs
  | 18, cs => GShare_ref16.k cs
  | 19, cs => Gload_order.k cs
  | 20, cs => Gbranch_qtree.k cs
  | 21, cs => Ggrowth_qtree.k cs
  | 22, cs => Guse_qtree.k cs
  | 23, cs => Gvec_rvec.k cs
  | 24, cs => Gbounds_share.k cs
  | _ + 25, _ => none
theorem SD.as_ok {t : Ty} {c : SD} {x : t.den} (h : c.as t = some x) : encE t x = [c.toD] := by
  unfold SD.as at h
  split at h
  · split at h
    · rename_i hk
      subst hk
      injection h with h
      subst h
      rfl
    · cases h
  · injection h with h
    subst h
    rfl
  · injection h with h
    subst h
    rfl
  · split at h
    · rename_i hk _
      subst hk
      injection h with h
      subst h
      rfl
    · cases h
  · injection h with h
    subst h
    rfl
  · cases h
theorem stC_ok : ∀ (i : Nat) (x : ST i), (stC i x).map SD.toD = stD i x
  | 0, (x : GVec) => rfl
  | 1, (x : GAsk) => rfl
  | 2, (x : GApp) => rfl
  | 3, (x : GCap) => rfl
  | 4, (x : GQueue) => rfl
  | 5, (x : GConf) => rfl
  | 6, (x : GCont) => rfl
  | 7, (x : GNode) => rfl
  | 8, (x : GPlan) => rfl
  | 9, (x : GInput) => rfl
  | 10, (x : GOutput) => rfl
  | 11, (x : GSlot) => rfl
  | 12, (x : GState) => rfl
  | 13, (x : GRawQueue_law5) => rfl
  | 14, (x : GRaw_law5) => rfl
  | 15, (x : GAct_law7) => rfl
  | 16, (x : GScript_law7) => rfl
  | 17, (x : Gfrac_ref1) => rfl
  | 18, (x : GShare_ref16) => rfl
  | 19, (x : Gload_order) => rfl
  | 20, (x : Gbranch_qtree) => rfl
  | 21, (x : Ggrowth_qtree) => rfl
  | 22, (x : Guse_qtree) => rfl
  | 23, (x : Gvec_rvec) => rfl
  | 24, (x : Gbounds_share) => rfl
  | _ + 25, _ => rfl
theorem stC_nl : ∀ (i : Nat) (x : ST i) (c : SD), c ∈ stC i x → c ≠ .nl
  | 0, (x : GVec), c, h => by
    simp only [stC, List.mem_cons, List.not_mem_nil, or_false] at h
    rcases h with rfl | rfl <;> (intro e; cases e)
  | 1, (x : GAsk), c, h => by
    simp only [stC, List.mem_cons, List.not_mem_nil, or_false] at h
    rcases h with rfl | rfl | rfl | rfl | rfl | rfl | rfl | rfl <;> (intro e; cases e)
  | 2, (x : GApp), c, h => by
    simp only [stC, List.mem_cons, List.not_mem_nil, or_false] at h
    rcases h with rfl | rfl | rfl | rfl | rfl | rfl | rfl | rfl | rfl | rfl | rfl | rfl | rfl | rfl <;> (intro e; cases e)
  | 3, (x : GCap), c, h => by
    simp only [stC, List.mem_cons, List.not_mem_nil, or_false] at h
    rcases h with rfl | rfl <;> (intro e; cases e)
  | 4, (x : GQueue), c, h => by
    simp only [stC, List.mem_cons, List.not_mem_nil, or_false] at h
    rcases h with rfl | rfl | rfl <;> (intro e; cases e)
  | 5, (x : GConf), c, h => by
    simp only [stC, List.mem_cons, List.not_mem_nil, or_false] at h
    rcases h with rfl | rfl <;> (intro e; cases e)
  | 6, (x : GCont), c, h => by
    simp only [stC, List.mem_cons, List.not_mem_nil, or_false] at h
    rcases h with rfl | rfl | rfl | rfl | rfl | rfl | rfl | rfl | rfl <;> (intro e; cases e)
  | 7, (x : GNode), c, h => by
    simp only [stC, List.mem_cons, List.not_mem_nil, or_false] at h
    rcases h with rfl | rfl | rfl | rfl | rfl | rfl | rfl | rfl <;> (intro e; cases e)
  | 8, (x : GPlan), c, h => by
    simp only [stC, List.mem_cons, List.not_mem_nil, or_false] at h
    rcases h with rfl | rfl | rfl | rfl | rfl | rfl <;> (intro e; cases e)
  | 9, (x : GInput), c, h => by
    simp only [stC, List.mem_cons, List.not_mem_nil, or_false] at h
    rcases h with rfl | rfl | rfl | rfl | rfl | rfl | rfl | rfl | rfl | rfl | rfl | rfl | rfl | rfl | rfl | rfl | rfl | rfl | rfl | rfl | rfl | rfl | rfl | rfl | rfl | rfl | rfl | rfl | rfl | rfl | rfl | rfl | rfl | rfl | rfl <;> (intro e; cases e)
  | 10, (x : GOutput), c, h => by
    simp only [stC, List.mem_cons, List.not_mem_nil, or_false] at h
    rcases h with rfl | rfl | rfl | rfl | rfl <;> (intro e; cases e)
  | 11, (x : GSlot), c, h => by
    simp only [stC, List.mem_cons, List.not_mem_nil, or_false] at h
    rcases h with rfl | rfl | rfl <;> (intro e; cases e)
  | 12, (x : GState), c, h => by
    simp only [stC, List.mem_cons, List.not_mem_nil, or_false] at h
    rcases h with rfl | rfl | rfl | rfl | rfl | rfl | rfl | rfl | rfl | rfl <;> (intro e; cases e)
  | 13, (x : GRawQueue_law5), c, h => by
    simp only [stC, List.mem_cons, List.not_mem_nil, or_false] at h
    rcases h with rfl | rfl | rfl <;> (intro e; cases e)
  | 14, (x : GRaw_law5), c, h => by
    simp only [stC, List.mem_cons, List.not_mem_nil, or_false] at h
    rcases h with rfl | rfl <;> (intro e; cases e)
  | 15, (x : GAct_law7), c, h => by
    simp only [stC, List.mem_cons, List.not_mem_nil, or_false] at h
    rcases h with rfl | rfl | rfl | rfl | rfl <;> (intro e; cases e)
  | 16, (x : GScript_law7), c, h => by
    simp only [stC, List.mem_cons, List.not_mem_nil, or_false] at h
    rcases h with rfl | rfl | rfl <;> (intro e; cases e)
  | 17, (x : Gfrac_ref1), c, h => by
    simp only [stC, List.mem_cons, List.not_mem_nil, or_false] at h
    rcases h with rfl | rfl <;> (intro e; cases e)
  | 18, (x : GShare_ref16), c, h => by
    simp only [stC, List.mem_cons, List.not_mem_nil, or_false] at h
    rcases h with rfl | rfl <;> (intro e; cases e)
  | 19, (x : Gload_order), c, h => by
    simp only [stC, List.mem_cons, List.not_mem_nil, or_false] at h
    rcases h with rfl | rfl | rfl | rfl | rfl <;> (intro e; cases e)
  | 20, (x : Gbranch_qtree), c, h => by
    simp only [stC, List.mem_cons, List.not_mem_nil, or_false] at h
    rcases h with rfl | rfl <;> (intro e; cases e)
  | 21, (x : Ggrowth_qtree), c, h => by
    simp only [stC, List.mem_cons, List.not_mem_nil, or_false] at h
    rcases h with rfl | rfl | rfl | rfl | rfl | rfl | rfl | rfl | rfl | rfl | rfl | rfl | rfl <;> (intro e; cases e)
  | 22, (x : Guse_qtree), c, h => by
    simp only [stC, List.mem_cons, List.not_mem_nil, or_false] at h
    rcases h with rfl | rfl <;> (intro e; cases e)
  | 23, (x : Gvec_rvec), c, h => by
    simp only [stC, List.mem_cons, List.not_mem_nil, or_false] at h
    rcases h with rfl | rfl <;> (intro e; cases e)
  | 24, (x : Gbounds_share), c, h => by
    simp only [stC, List.mem_cons, List.not_mem_nil, or_false] at h
    rcases h with rfl | rfl <;> (intro e; cases e)
  | _ + 25, _, c, h => by cases h
theorem stD_len : ∀ (i : Nat) (x : ST i), (stD i x).length = stN i
  | 0, (x : GVec) => rfl
  | 1, (x : GAsk) => rfl
  | 2, (x : GApp) => rfl
  | 3, (x : GCap) => rfl
  | 4, (x : GQueue) => rfl
  | 5, (x : GConf) => rfl
  | 6, (x : GCont) => rfl
  | 7, (x : GNode) => rfl
  | 8, (x : GPlan) => rfl
  | 9, (x : GInput) => rfl
  | 10, (x : GOutput) => rfl
  | 11, (x : GSlot) => rfl
  | 12, (x : GState) => rfl
  | 13, (x : GRawQueue_law5) => rfl
  | 14, (x : GRaw_law5) => rfl
  | 15, (x : GAct_law7) => rfl
  | 16, (x : GScript_law7) => rfl
  | 17, (x : Gfrac_ref1) => rfl
  | 18, (x : GShare_ref16) => rfl
  | 19, (x : Gload_order) => rfl
  | 20, (x : Gbranch_qtree) => rfl
  | 21, (x : Ggrowth_qtree) => rfl
  | 22, (x : Guse_qtree) => rfl
  | 23, (x : Gvec_rvec) => rfl
  | 24, (x : Gbounds_share) => rfl
  | _ + 25, _ => rfl
theorem stF_ok : ∀ (i : Nat) (x : ST i), stF i = true → ∀ d ∈ stD i x, ∃ y, d = .v y
  | 0, (x : GVec), _, d, h => by
    simp only [stD, GVec.d, List.mem_cons, List.not_mem_nil, or_false] at h
    rcases h with rfl | rfl <;> exact ⟨_, rfl⟩
  | 1, (x : GAsk), _, d, h => by
    simp only [stD, GAsk.d, List.mem_cons, List.not_mem_nil, or_false] at h
    rcases h with rfl | rfl | rfl | rfl | rfl | rfl | rfl | rfl <;> exact ⟨_, rfl⟩
  | 2, (x : GApp), h, _, _ => by cases h
  | 3, (x : GCap), _, d, h => by
    simp only [stD, GCap.d, List.mem_cons, List.not_mem_nil, or_false] at h
    rcases h with rfl | rfl <;> exact ⟨_, rfl⟩
  | 4, (x : GQueue), h, _, _ => by cases h
  | 5, (x : GConf), h, _, _ => by cases h
  | 6, (x : GCont), _, d, h => by
    simp only [stD, GCont.d, List.mem_cons, List.not_mem_nil, or_false] at h
    rcases h with rfl | rfl | rfl | rfl | rfl | rfl | rfl | rfl | rfl <;> exact ⟨_, rfl⟩
  | 7, (x : GNode), _, d, h => by
    simp only [stD, GNode.d, List.mem_cons, List.not_mem_nil, or_false] at h
    rcases h with rfl | rfl | rfl | rfl | rfl | rfl | rfl | rfl <;> exact ⟨_, rfl⟩
  | 8, (x : GPlan), _, d, h => by
    simp only [stD, GPlan.d, List.mem_cons, List.not_mem_nil, or_false] at h
    rcases h with rfl | rfl | rfl | rfl | rfl | rfl <;> exact ⟨_, rfl⟩
  | 9, (x : GInput), h, _, _ => by cases h
  | 10, (x : GOutput), h, _, _ => by cases h
  | 11, (x : GSlot), _, d, h => by
    simp only [stD, GSlot.d, List.mem_cons, List.not_mem_nil, or_false] at h
    rcases h with rfl | rfl | rfl <;> exact ⟨_, rfl⟩
  | 12, (x : GState), h, _, _ => by cases h
  | 13, (x : GRawQueue_law5), h, _, _ => by cases h
  | 14, (x : GRaw_law5), h, _, _ => by cases h
  | 15, (x : GAct_law7), _, d, h => by
    simp only [stD, GAct_law7.d, List.mem_cons, List.not_mem_nil, or_false] at h
    rcases h with rfl | rfl | rfl | rfl | rfl <;> exact ⟨_, rfl⟩
  | 16, (x : GScript_law7), h, _, _ => by cases h
  | 17, (x : Gfrac_ref1), _, d, h => by
    simp only [stD, Gfrac_ref1.d, List.mem_cons, List.not_mem_nil, or_false] at h
    rcases h with rfl | rfl <;> exact ⟨_, rfl⟩
  | 18, (x : GShare_ref16), _, d, h => by
    simp only [stD, GShare_ref16.d, List.mem_cons, List.not_mem_nil, or_false] at h
    rcases h with rfl | rfl <;> exact ⟨_, rfl⟩
  | 19, (x : Gload_order), _, d, h => by
    simp only [stD, Gload_order.d, List.mem_cons, List.not_mem_nil, or_false] at h
    rcases h with rfl | rfl | rfl | rfl | rfl <;> exact ⟨_, rfl⟩
  | 20, (x : Gbranch_qtree), _, d, h => by
    simp only [stD, Gbranch_qtree.d, List.mem_cons, List.not_mem_nil, or_false] at h
    rcases h with rfl | rfl <;> exact ⟨_, rfl⟩
  | 21, (x : Ggrowth_qtree), h, _, _ => by cases h
  | 22, (x : Guse_qtree), _, d, h => by
    simp only [stD, Guse_qtree.d, List.mem_cons, List.not_mem_nil, or_false] at h
    rcases h with rfl | rfl <;> exact ⟨_, rfl⟩
  | 23, (x : Gvec_rvec), _, d, h => by
    simp only [stD, Gvec_rvec.d, List.mem_cons, List.not_mem_nil, or_false] at h
    rcases h with rfl | rfl <;> exact ⟨_, rfl⟩
  | 24, (x : Gbounds_share), _, d, h => by
    simp only [stD, Gbounds_share.d, List.mem_cons, List.not_mem_nil, or_false] at h
    rcases h with rfl | rfl <;> exact ⟨_, rfl⟩
  | _ + 25, _, _, _, h => by cases h
theorem bindS {α β : Type} {o : Option α} {k : α → Option β} {r : β} (h : o.bind k = some r) : ∃ x, o = some x ∧ k x = some r := by
  cases o with
  | none => cases h
  | some x => exact ⟨x, rfl, h⟩
set_option maxRecDepth 10000 in
set_option maxHeartbeats 2000000 in
theorem GVec.k_ok {cs : List SD} {x : GVec} (h : GVec.k cs = some x) : cs.map SD.toD = GVec.d x := by
  unfold GVec.k at h
  split at h
  · rename_i c0 c1
    obtain ⟨x0, e0, h⟩ := bindS h
    obtain ⟨x1, e1, h⟩ := bindS h
    injection h with h
    subst h
    have q0 := SD.as_ok e0
    clear e0
    have q1 := SD.as_ok e1
    clear e1
    simp only [encE, List.cons.injEq, and_true] at q0 q1
    simp only [List.map_cons, List.map_nil, GVec.d, ← q0, ← q1]
    try rfl
  · cases h
set_option maxRecDepth 10000 in
set_option maxHeartbeats 2000000 in
theorem GAsk.k_ok {cs : List SD} {x : GAsk} (h : GAsk.k cs = some x) : cs.map SD.toD = GAsk.d x := by
  unfold GAsk.k at h
  split at h
  · rename_i c0 c1 c2 c3 c4 c5 c6 c7
    obtain ⟨x0, e0, h⟩ := bindS h
    obtain ⟨x1, e1, h⟩ := bindS h
    obtain ⟨x2, e2, h⟩ := bindS h
    obtain ⟨x3, e3, h⟩ := bindS h
    obtain ⟨x4, e4, h⟩ := bindS h
    obtain ⟨x5, e5, h⟩ := bindS h
    obtain ⟨x6, e6, h⟩ := bindS h
    obtain ⟨x7, e7, h⟩ := bindS h
    injection h with h
    subst h
    have q0 := SD.as_ok e0
    clear e0
    have q1 := SD.as_ok e1
    clear e1
    have q2 := SD.as_ok e2
    clear e2
    have q3 := SD.as_ok e3
    clear e3
    have q4 := SD.as_ok e4
    clear e4
    have q5 := SD.as_ok e5
    clear e5
    have q6 := SD.as_ok e6
    clear e6
    have q7 := SD.as_ok e7
    clear e7
    simp only [encE, List.cons.injEq, and_true] at q0 q1 q2 q3 q4 q5 q6 q7
    simp only [List.map_cons, List.map_nil, GAsk.d, ← q0, ← q1, ← q2, ← q3, ← q4, ← q5, ← q6, ← q7]
    try rfl
  · cases h
set_option maxRecDepth 10000 in
set_option maxHeartbeats 2000000 in
theorem GApp.k_ok {cs : List SD} {x : GApp} (h : GApp.k cs = some x) : cs.map SD.toD = GApp.d x := by
  unfold GApp.k at h
  split at h
  · rename_i c0 c1 c2 c3 c4 c5 c6 c7 c8 c9 c10 c11 c12 c13
    obtain ⟨x0, e0, h⟩ := bindS h
    obtain ⟨x1, e1, h⟩ := bindS h
    obtain ⟨x2, e2, h⟩ := bindS h
    obtain ⟨x3, e3, h⟩ := bindS h
    obtain ⟨x4, e4, h⟩ := bindS h
    obtain ⟨x5, e5, h⟩ := bindS h
    obtain ⟨x6, e6, h⟩ := bindS h
    obtain ⟨x7, e7, h⟩ := bindS h
    obtain ⟨x8, e8, h⟩ := bindS h
    obtain ⟨x9, e9, h⟩ := bindS h
    obtain ⟨x10, e10, h⟩ := bindS h
    obtain ⟨x11, e11, h⟩ := bindS h
    obtain ⟨x12, e12, h⟩ := bindS h
    obtain ⟨x13, e13, h⟩ := bindS h
    injection h with h
    subst h
    have q0 := SD.as_ok e0
    clear e0
    have q1 := SD.as_ok e1
    clear e1
    have q2 := SD.as_ok e2
    clear e2
    have q3 := SD.as_ok e3
    clear e3
    have q4 := SD.as_ok e4
    clear e4
    have q5 := SD.as_ok e5
    clear e5
    have q6 := SD.as_ok e6
    clear e6
    have q7 := SD.as_ok e7
    clear e7
    have q8 := SD.as_ok e8
    clear e8
    have q9 := SD.as_ok e9
    clear e9
    have q10 := SD.as_ok e10
    clear e10
    have q11 := SD.as_ok e11
    clear e11
    have q12 := SD.as_ok e12
    clear e12
    have q13 := SD.as_ok e13
    clear e13
    simp only [encE, List.cons.injEq, and_true] at q0 q1 q2 q3 q4 q5 q6 q7 q8 q9 q10 q11 q12 q13
    simp only [List.map_cons, List.map_nil, GApp.d, ← q0, ← q1, ← q2, ← q3, ← q4, ← q5, ← q6, ← q7, ← q8, ← q9, ← q10, ← q11, ← q12, ← q13]
    try rfl
  · cases h
set_option maxRecDepth 10000 in
set_option maxHeartbeats 2000000 in
theorem GCap.k_ok {cs : List SD} {x : GCap} (h : GCap.k cs = some x) : cs.map SD.toD = GCap.d x := by
  unfold GCap.k at h
  split at h
  · rename_i c0 c1
    obtain ⟨x0, e0, h⟩ := bindS h
    obtain ⟨x1, e1, h⟩ := bindS h
    injection h with h
    subst h
    have q0 := SD.as_ok e0
    clear e0
    have q1 := SD.as_ok e1
    clear e1
    simp only [encE, List.cons.injEq, and_true] at q0 q1
    simp only [List.map_cons, List.map_nil, GCap.d, ← q0, ← q1]
    try rfl
  · cases h
set_option maxRecDepth 10000 in
set_option maxHeartbeats 2000000 in
theorem GQueue.k_ok {cs : List SD} {x : GQueue} (h : GQueue.k cs = some x) : cs.map SD.toD = GQueue.d x := by
  unfold GQueue.k at h
  split at h
  · rename_i c0 c1 c2
    obtain ⟨x0, e0, h⟩ := bindS h
    obtain ⟨x1, e1, h⟩ := bindS h
    obtain ⟨x2, e2, h⟩ := bindS h
    injection h with h
    subst h
    have q0 := SD.as_ok e0
    clear e0
    have q1 := SD.as_ok e1
    clear e1
    have q2 := SD.as_ok e2
    clear e2
    simp only [encE, List.cons.injEq, and_true] at q0 q1 q2
    simp only [List.map_cons, List.map_nil, GQueue.d, ← q0, ← q1, ← q2]
    try rfl
  · cases h
set_option maxRecDepth 10000 in
set_option maxHeartbeats 2000000 in
theorem GConf.k_ok {cs : List SD} {x : GConf} (h : GConf.k cs = some x) : cs.map SD.toD = GConf.d x := by
  unfold GConf.k at h
  split at h
  · rename_i c0 c1
    obtain ⟨x0, e0, h⟩ := bindS h
    obtain ⟨x1, e1, h⟩ := bindS h
    injection h with h
    subst h
    have q0 := SD.as_ok e0
    clear e0
    have q1 := SD.as_ok e1
    clear e1
    simp only [encE, List.cons.injEq, and_true] at q0 q1
    simp only [List.map_cons, List.map_nil, GConf.d, ← q0, ← q1]
    try rfl
  · cases h
set_option maxRecDepth 10000 in
set_option maxHeartbeats 2000000 in
theorem GCont.k_ok {cs : List SD} {x : GCont} (h : GCont.k cs = some x) : cs.map SD.toD = GCont.d x := by
  unfold GCont.k at h
  split at h
  · rename_i c0 c1 c2 c3 c4 c5 c6 c7 c8
    obtain ⟨x0, e0, h⟩ := bindS h
    obtain ⟨x1, e1, h⟩ := bindS h
    obtain ⟨x2, e2, h⟩ := bindS h
    obtain ⟨x3, e3, h⟩ := bindS h
    obtain ⟨x4, e4, h⟩ := bindS h
    obtain ⟨x5, e5, h⟩ := bindS h
    obtain ⟨x6, e6, h⟩ := bindS h
    obtain ⟨x7, e7, h⟩ := bindS h
    obtain ⟨x8, e8, h⟩ := bindS h
    injection h with h
    subst h
    have q0 := SD.as_ok e0
    clear e0
    have q1 := SD.as_ok e1
    clear e1
    have q2 := SD.as_ok e2
    clear e2
    have q3 := SD.as_ok e3
    clear e3
    have q4 := SD.as_ok e4
    clear e4
    have q5 := SD.as_ok e5
    clear e5
    have q6 := SD.as_ok e6
    clear e6
    have q7 := SD.as_ok e7
    clear e7
    have q8 := SD.as_ok e8
    clear e8
    simp only [encE, List.cons.injEq, and_true] at q0 q1 q2 q3 q4 q5 q6 q7 q8
    simp only [List.map_cons, List.map_nil, GCont.d, ← q0, ← q1, ← q2, ← q3, ← q4, ← q5, ← q6, ← q7, ← q8]
    try rfl
  · cases h
set_option maxRecDepth 10000 in
set_option maxHeartbeats 2000000 in
theorem GNode.k_ok {cs : List SD} {x : GNode} (h : GNode.k cs = some x) : cs.map SD.toD = GNode.d x := by
  unfold GNode.k at h
  split at h
  · rename_i c0 c1 c2 c3 c4 c5 c6 c7
    obtain ⟨x0, e0, h⟩ := bindS h
    obtain ⟨x1, e1, h⟩ := bindS h
    obtain ⟨x2, e2, h⟩ := bindS h
    obtain ⟨x3, e3, h⟩ := bindS h
    obtain ⟨x4, e4, h⟩ := bindS h
    obtain ⟨x5, e5, h⟩ := bindS h
    obtain ⟨x6, e6, h⟩ := bindS h
    obtain ⟨x7, e7, h⟩ := bindS h
    injection h with h
    subst h
    have q0 := SD.as_ok e0
    clear e0
    have q1 := SD.as_ok e1
    clear e1
    have q2 := SD.as_ok e2
    clear e2
    have q3 := SD.as_ok e3
    clear e3
    have q4 := SD.as_ok e4
    clear e4
    have q5 := SD.as_ok e5
    clear e5
    have q6 := SD.as_ok e6
    clear e6
    have q7 := SD.as_ok e7
    clear e7
    simp only [encE, List.cons.injEq, and_true] at q0 q1 q2 q3 q4 q5 q6 q7
    simp only [List.map_cons, List.map_nil, GNode.d, ← q0, ← q1, ← q2, ← q3, ← q4, ← q5, ← q6, ← q7]
    try rfl
  · cases h
set_option maxRecDepth 10000 in
set_option maxHeartbeats 2000000 in
theorem GPlan.k_ok {cs : List SD} {x : GPlan} (h : GPlan.k cs = some x) : cs.map SD.toD = GPlan.d x := by
  unfold GPlan.k at h
  split at h
  · rename_i c0 c1 c2 c3 c4 c5
    obtain ⟨x0, e0, h⟩ := bindS h
    obtain ⟨x1, e1, h⟩ := bindS h
    obtain ⟨x2, e2, h⟩ := bindS h
    obtain ⟨x3, e3, h⟩ := bindS h
    obtain ⟨x4, e4, h⟩ := bindS h
    obtain ⟨x5, e5, h⟩ := bindS h
    injection h with h
    subst h
    have q0 := SD.as_ok e0
    clear e0
    have q1 := SD.as_ok e1
    clear e1
    have q2 := SD.as_ok e2
    clear e2
    have q3 := SD.as_ok e3
    clear e3
    have q4 := SD.as_ok e4
    clear e4
    have q5 := SD.as_ok e5
    clear e5
    simp only [encE, List.cons.injEq, and_true] at q0 q1 q2 q3 q4 q5
    simp only [List.map_cons, List.map_nil, GPlan.d, ← q0, ← q1, ← q2, ← q3, ← q4, ← q5]
    try rfl
  · cases h
set_option maxRecDepth 10000 in
set_option maxHeartbeats 2000000 in
theorem GInput.k_ok {cs : List SD} {x : GInput} (h : GInput.k cs = some x) : cs.map SD.toD = GInput.d x := by
  unfold GInput.k at h
  split at h
  · rename_i c0 c1 c2 c3 c4 c5 c6 c7 c8 c9 c10 c11 c12 c13 c14 c15 c16 c17 c18 c19 c20 c21 c22 c23 c24 c25 c26 c27 c28 c29 c30 c31 c32 c33 c34
    obtain ⟨x0, e0, h⟩ := bindS h
    obtain ⟨x1, e1, h⟩ := bindS h
    obtain ⟨x2, e2, h⟩ := bindS h
    obtain ⟨x3, e3, h⟩ := bindS h
    obtain ⟨x4, e4, h⟩ := bindS h
    obtain ⟨x5, e5, h⟩ := bindS h
    obtain ⟨x6, e6, h⟩ := bindS h
    obtain ⟨x7, e7, h⟩ := bindS h
    obtain ⟨x8, e8, h⟩ := bindS h
    obtain ⟨x9, e9, h⟩ := bindS h
    obtain ⟨x10, e10, h⟩ := bindS h
    obtain ⟨x11, e11, h⟩ := bindS h
    obtain ⟨x12, e12, h⟩ := bindS h
    obtain ⟨x13, e13, h⟩ := bindS h
    obtain ⟨x14, e14, h⟩ := bindS h
    obtain ⟨x15, e15, h⟩ := bindS h
    obtain ⟨x16, e16, h⟩ := bindS h
    obtain ⟨x17, e17, h⟩ := bindS h
    obtain ⟨x18, e18, h⟩ := bindS h
    obtain ⟨x19, e19, h⟩ := bindS h
    obtain ⟨x20, e20, h⟩ := bindS h
    obtain ⟨x21, e21, h⟩ := bindS h
    obtain ⟨x22, e22, h⟩ := bindS h
    obtain ⟨x23, e23, h⟩ := bindS h
    obtain ⟨x24, e24, h⟩ := bindS h
    obtain ⟨x25, e25, h⟩ := bindS h
    obtain ⟨x26, e26, h⟩ := bindS h
    obtain ⟨x27, e27, h⟩ := bindS h
    obtain ⟨x28, e28, h⟩ := bindS h
    obtain ⟨x29, e29, h⟩ := bindS h
    obtain ⟨x30, e30, h⟩ := bindS h
    obtain ⟨x31, e31, h⟩ := bindS h
    obtain ⟨x32, e32, h⟩ := bindS h
    obtain ⟨x33, e33, h⟩ := bindS h
    obtain ⟨x34, e34, h⟩ := bindS h
    injection h with h
    subst h
    have q0 := SD.as_ok e0
    clear e0
    have q1 := SD.as_ok e1
    clear e1
    have q2 := SD.as_ok e2
    clear e2
    have q3 := SD.as_ok e3
    clear e3
    have q4 := SD.as_ok e4
    clear e4
    have q5 := SD.as_ok e5
    clear e5
    have q6 := SD.as_ok e6
    clear e6
    have q7 := SD.as_ok e7
    clear e7
    have q8 := SD.as_ok e8
    clear e8
    have q9 := SD.as_ok e9
    clear e9
    have q10 := SD.as_ok e10
    clear e10
    have q11 := SD.as_ok e11
    clear e11
    have q12 := SD.as_ok e12
    clear e12
    have q13 := SD.as_ok e13
    clear e13
    have q14 := SD.as_ok e14
    clear e14
    have q15 := SD.as_ok e15
    clear e15
    have q16 := SD.as_ok e16
    clear e16
    have q17 := SD.as_ok e17
    clear e17
    have q18 := SD.as_ok e18
    clear e18
    have q19 := SD.as_ok e19
    clear e19
    have q20 := SD.as_ok e20
    clear e20
    have q21 := SD.as_ok e21
    clear e21
    have q22 := SD.as_ok e22
    clear e22
    have q23 := SD.as_ok e23
    clear e23
    have q24 := SD.as_ok e24
    clear e24
    have q25 := SD.as_ok e25
    clear e25
    have q26 := SD.as_ok e26
    clear e26
    have q27 := SD.as_ok e27
    clear e27
    have q28 := SD.as_ok e28
    clear e28
    have q29 := SD.as_ok e29
    clear e29
    have q30 := SD.as_ok e30
    clear e30
    have q31 := SD.as_ok e31
    clear e31
    have q32 := SD.as_ok e32
    clear e32
    have q33 := SD.as_ok e33
    clear e33
    have q34 := SD.as_ok e34
    clear e34
    simp only [encE, List.cons.injEq, and_true] at q0 q1 q2 q3 q4 q5 q6 q7 q8 q9 q10 q11 q12 q13 q14 q15 q16 q17 q18 q19 q20 q21 q22 q23 q24 q25 q26 q27 q28 q29 q30 q31 q32 q33 q34
    simp only [List.map_cons, List.map_nil, GInput.d, ← q0, ← q1, ← q2, ← q3, ← q4, ← q5, ← q6, ← q7, ← q8, ← q9, ← q10, ← q11, ← q12, ← q13, ← q14, ← q15, ← q16, ← q17, ← q18, ← q19, ← q20, ← q21, ← q22, ← q23, ← q24, ← q25, ← q26, ← q27, ← q28, ← q29, ← q30, ← q31, ← q32, ← q33, ← q34]
    try rfl
  · cases h
set_option maxRecDepth 10000 in
set_option maxHeartbeats 2000000 in
theorem GOutput.k_ok {cs : List SD} {x : GOutput} (h : GOutput.k cs = some x) : cs.map SD.toD = GOutput.d x := by
  unfold GOutput.k at h
  split at h
  · rename_i c0 c1 c2 c3 c4
    obtain ⟨x0, e0, h⟩ := bindS h
    obtain ⟨x1, e1, h⟩ := bindS h
    obtain ⟨x2, e2, h⟩ := bindS h
    obtain ⟨x3, e3, h⟩ := bindS h
    obtain ⟨x4, e4, h⟩ := bindS h
    injection h with h
    subst h
    have q0 := SD.as_ok e0
    clear e0
    have q1 := SD.as_ok e1
    clear e1
    have q2 := SD.as_ok e2
    clear e2
    have q3 := SD.as_ok e3
    clear e3
    have q4 := SD.as_ok e4
    clear e4
    simp only [encE, List.cons.injEq, and_true] at q0 q1 q2 q3 q4
    simp only [List.map_cons, List.map_nil, GOutput.d, ← q0, ← q1, ← q2, ← q3, ← q4]
    try rfl
  · cases h
set_option maxRecDepth 10000 in
set_option maxHeartbeats 2000000 in
theorem GSlot.k_ok {cs : List SD} {x : GSlot} (h : GSlot.k cs = some x) : cs.map SD.toD = GSlot.d x := by
  unfold GSlot.k at h
  split at h
  · rename_i c0 c1 c2
    obtain ⟨x0, e0, h⟩ := bindS h
    obtain ⟨x1, e1, h⟩ := bindS h
    obtain ⟨x2, e2, h⟩ := bindS h
    injection h with h
    subst h
    have q0 := SD.as_ok e0
    clear e0
    have q1 := SD.as_ok e1
    clear e1
    have q2 := SD.as_ok e2
    clear e2
    simp only [encE, List.cons.injEq, and_true] at q0 q1 q2
    simp only [List.map_cons, List.map_nil, GSlot.d, ← q0, ← q1, ← q2]
    try rfl
  · cases h
set_option maxRecDepth 10000 in
set_option maxHeartbeats 2000000 in
theorem GState.k_ok {cs : List SD} {x : GState} (h : GState.k cs = some x) : cs.map SD.toD = GState.d x := by
  unfold GState.k at h
  split at h
  · rename_i c0 c1 c2 c3 c4 c5 c6 c7 c8 c9
    obtain ⟨x0, e0, h⟩ := bindS h
    obtain ⟨x1, e1, h⟩ := bindS h
    obtain ⟨x2, e2, h⟩ := bindS h
    obtain ⟨x3, e3, h⟩ := bindS h
    obtain ⟨x4, e4, h⟩ := bindS h
    obtain ⟨x5, e5, h⟩ := bindS h
    obtain ⟨x6, e6, h⟩ := bindS h
    obtain ⟨x7, e7, h⟩ := bindS h
    obtain ⟨x8, e8, h⟩ := bindS h
    obtain ⟨x9, e9, h⟩ := bindS h
    injection h with h
    subst h
    have q0 := SD.as_ok e0
    clear e0
    have q1 := SD.as_ok e1
    clear e1
    have q2 := SD.as_ok e2
    clear e2
    have q3 := SD.as_ok e3
    clear e3
    have q4 := SD.as_ok e4
    clear e4
    have q5 := SD.as_ok e5
    clear e5
    have q6 := SD.as_ok e6
    clear e6
    have q7 := SD.as_ok e7
    clear e7
    have q8 := SD.as_ok e8
    clear e8
    have q9 := SD.as_ok e9
    clear e9
    simp only [encE, List.cons.injEq, and_true] at q0 q1 q2 q3 q4 q5 q6 q7 q8 q9
    simp only [List.map_cons, List.map_nil, GState.d, ← q0, ← q1, ← q2, ← q3, ← q4, ← q5, ← q6, ← q7, ← q8, ← q9]
    try rfl
  · cases h
set_option maxRecDepth 10000 in
set_option maxHeartbeats 2000000 in
theorem GRawQueue_law5.k_ok {cs : List SD} {x : GRawQueue_law5} (h : GRawQueue_law5.k cs = some x) : cs.map SD.toD = GRawQueue_law5.d x := by
  unfold GRawQueue_law5.k at h
  split at h
  · rename_i c0 c1 c2
    obtain ⟨x0, e0, h⟩ := bindS h
    obtain ⟨x1, e1, h⟩ := bindS h
    obtain ⟨x2, e2, h⟩ := bindS h
    injection h with h
    subst h
    have q0 := SD.as_ok e0
    clear e0
    have q1 := SD.as_ok e1
    clear e1
    have q2 := SD.as_ok e2
    clear e2
    simp only [encE, List.cons.injEq, and_true] at q0 q1 q2
    simp only [List.map_cons, List.map_nil, GRawQueue_law5.d, ← q0, ← q1, ← q2]
    try rfl
  · cases h
set_option maxRecDepth 10000 in
set_option maxHeartbeats 2000000 in
theorem GRaw_law5.k_ok {cs : List SD} {x : GRaw_law5} (h : GRaw_law5.k cs = some x) : cs.map SD.toD = GRaw_law5.d x := by
  unfold GRaw_law5.k at h
  split at h
  · rename_i c0 c1
    obtain ⟨x0, e0, h⟩ := bindS h
    obtain ⟨x1, e1, h⟩ := bindS h
    injection h with h
    subst h
    have q0 := SD.as_ok e0
    clear e0
    have q1 := SD.as_ok e1
    clear e1
    simp only [encE, List.cons.injEq, and_true] at q0 q1
    simp only [List.map_cons, List.map_nil, GRaw_law5.d, ← q0, ← q1]
    try rfl
  · cases h
set_option maxRecDepth 10000 in
set_option maxHeartbeats 2000000 in
theorem GAct_law7.k_ok {cs : List SD} {x : GAct_law7} (h : GAct_law7.k cs = some x) : cs.map SD.toD = GAct_law7.d x := by
  unfold GAct_law7.k at h
  split at h
  · rename_i c0 c1 c2 c3 c4
    obtain ⟨x0, e0, h⟩ := bindS h
    obtain ⟨x1, e1, h⟩ := bindS h
    obtain ⟨x2, e2, h⟩ := bindS h
    obtain ⟨x3, e3, h⟩ := bindS h
    obtain ⟨x4, e4, h⟩ := bindS h
    injection h with h
    subst h
    have q0 := SD.as_ok e0
    clear e0
    have q1 := SD.as_ok e1
    clear e1
    have q2 := SD.as_ok e2
    clear e2
    have q3 := SD.as_ok e3
    clear e3
    have q4 := SD.as_ok e4
    clear e4
    simp only [encE, List.cons.injEq, and_true] at q0 q1 q2 q3 q4
    simp only [List.map_cons, List.map_nil, GAct_law7.d, ← q0, ← q1, ← q2, ← q3, ← q4]
    try rfl
  · cases h
set_option maxRecDepth 10000 in
set_option maxHeartbeats 2000000 in
theorem GScript_law7.k_ok {cs : List SD} {x : GScript_law7} (h : GScript_law7.k cs = some x) : cs.map SD.toD = GScript_law7.d x := by
  unfold GScript_law7.k at h
  split at h
  · rename_i c0 c1 c2
    obtain ⟨x0, e0, h⟩ := bindS h
    obtain ⟨x1, e1, h⟩ := bindS h
    obtain ⟨x2, e2, h⟩ := bindS h
    injection h with h
    subst h
    have q0 := SD.as_ok e0
    clear e0
    have q1 := SD.as_ok e1
    clear e1
    have q2 := SD.as_ok e2
    clear e2
    simp only [encE, List.cons.injEq, and_true] at q0 q1 q2
    simp only [List.map_cons, List.map_nil, GScript_law7.d, ← q0, ← q1, ← q2]
    try rfl
  · cases h
set_option maxRecDepth 10000 in
set_option maxHeartbeats 2000000 in
theorem Gfrac_ref1.k_ok {cs : List SD} {x : Gfrac_ref1} (h : Gfrac_ref1.k cs = some x) : cs.map SD.toD = Gfrac_ref1.d x := by
  unfold Gfrac_ref1.k at h
  split at h
  · rename_i c0 c1
    obtain ⟨x0, e0, h⟩ := bindS h
    obtain ⟨x1, e1, h⟩ := bindS h
    injection h with h
    subst h
    have q0 := SD.as_ok e0
    clear e0
    have q1 := SD.as_ok e1
    clear e1
    simp only [encE, List.cons.injEq, and_true] at q0 q1
    simp only [List.map_cons, List.map_nil, Gfrac_ref1.d, ← q0, ← q1]
    try rfl
  · cases h
set_option maxRecDepth 10000 in
set_option maxHeartbeats 2000000 in
theorem GShare_ref16.k_ok {cs : List SD} {x : GShare_ref16} (h : GShare_ref16.k cs = some x) : cs.map SD.toD = GShare_ref16.d x := by
  unfold GShare_ref16.k at h
  split at h
  · rename_i c0 c1
    obtain ⟨x0, e0, h⟩ := bindS h
    obtain ⟨x1, e1, h⟩ := bindS h
    injection h with h
    subst h
    have q0 := SD.as_ok e0
    clear e0
    have q1 := SD.as_ok e1
    clear e1
    simp only [encE, List.cons.injEq, and_true] at q0 q1
    simp only [List.map_cons, List.map_nil, GShare_ref16.d, ← q0, ← q1]
    try rfl
  · cases h
set_option maxRecDepth 10000 in
set_option maxHeartbeats 2000000 in
theorem Gload_order.k_ok {cs : List SD} {x : Gload_order} (h : Gload_order.k cs = some x) : cs.map SD.toD = Gload_order.d x := by
  unfold Gload_order.k at h
  split at h
  · rename_i c0 c1 c2 c3 c4
    obtain ⟨x0, e0, h⟩ := bindS h
    obtain ⟨x1, e1, h⟩ := bindS h
    obtain ⟨x2, e2, h⟩ := bindS h
    obtain ⟨x3, e3, h⟩ := bindS h
    obtain ⟨x4, e4, h⟩ := bindS h
    injection h with h
    subst h
    have q0 := SD.as_ok e0
    clear e0
    have q1 := SD.as_ok e1
    clear e1
    have q2 := SD.as_ok e2
    clear e2
    have q3 := SD.as_ok e3
    clear e3
    have q4 := SD.as_ok e4
    clear e4
    simp only [encE, List.cons.injEq, and_true] at q0 q1 q2 q3 q4
    simp only [List.map_cons, List.map_nil, Gload_order.d, ← q0, ← q1, ← q2, ← q3, ← q4]
    try rfl
  · cases h
set_option maxRecDepth 10000 in
set_option maxHeartbeats 2000000 in
theorem Gbranch_qtree.k_ok {cs : List SD} {x : Gbranch_qtree} (h : Gbranch_qtree.k cs = some x) : cs.map SD.toD = Gbranch_qtree.d x := by
  unfold Gbranch_qtree.k at h
  split at h
  · rename_i c0 c1
    obtain ⟨x0, e0, h⟩ := bindS h
    obtain ⟨x1, e1, h⟩ := bindS h
    injection h with h
    subst h
    have q0 := SD.as_ok e0
    clear e0
    have q1 := SD.as_ok e1
    clear e1
    simp only [encE, List.cons.injEq, and_true] at q0 q1
    simp only [List.map_cons, List.map_nil, Gbranch_qtree.d, ← q0, ← q1]
    try rfl
  · cases h
set_option maxRecDepth 10000 in
set_option maxHeartbeats 2000000 in
theorem Ggrowth_qtree.k_ok {cs : List SD} {x : Ggrowth_qtree} (h : Ggrowth_qtree.k cs = some x) : cs.map SD.toD = Ggrowth_qtree.d x := by
  unfold Ggrowth_qtree.k at h
  split at h
  · rename_i c0 c1 c2 c3 c4 c5 c6 c7 c8 c9 c10 c11 c12
    obtain ⟨x0, e0, h⟩ := bindS h
    obtain ⟨x1, e1, h⟩ := bindS h
    obtain ⟨x2, e2, h⟩ := bindS h
    obtain ⟨x3, e3, h⟩ := bindS h
    obtain ⟨x4, e4, h⟩ := bindS h
    obtain ⟨x5, e5, h⟩ := bindS h
    obtain ⟨x6, e6, h⟩ := bindS h
    obtain ⟨x7, e7, h⟩ := bindS h
    obtain ⟨x8, e8, h⟩ := bindS h
    obtain ⟨x9, e9, h⟩ := bindS h
    obtain ⟨x10, e10, h⟩ := bindS h
    obtain ⟨x11, e11, h⟩ := bindS h
    obtain ⟨x12, e12, h⟩ := bindS h
    injection h with h
    subst h
    have q0 := SD.as_ok e0
    clear e0
    have q1 := SD.as_ok e1
    clear e1
    have q2 := SD.as_ok e2
    clear e2
    have q3 := SD.as_ok e3
    clear e3
    have q4 := SD.as_ok e4
    clear e4
    have q5 := SD.as_ok e5
    clear e5
    have q6 := SD.as_ok e6
    clear e6
    have q7 := SD.as_ok e7
    clear e7
    have q8 := SD.as_ok e8
    clear e8
    have q9 := SD.as_ok e9
    clear e9
    have q10 := SD.as_ok e10
    clear e10
    have q11 := SD.as_ok e11
    clear e11
    have q12 := SD.as_ok e12
    clear e12
    simp only [encE, List.cons.injEq, and_true] at q0 q1 q2 q3 q4 q5 q6 q7 q8 q9 q10 q11 q12
    simp only [List.map_cons, List.map_nil, Ggrowth_qtree.d, ← q0, ← q1, ← q2, ← q3, ← q4, ← q5, ← q6, ← q7, ← q8, ← q9, ← q10, ← q11, ← q12]
    try rfl
  · cases h
set_option maxRecDepth 10000 in
set_option maxHeartbeats 2000000 in
theorem Guse_qtree.k_ok {cs : List SD} {x : Guse_qtree} (h : Guse_qtree.k cs = some x) : cs.map SD.toD = Guse_qtree.d x := by
  unfold Guse_qtree.k at h
  split at h
  · rename_i c0 c1
    obtain ⟨x0, e0, h⟩ := bindS h
    obtain ⟨x1, e1, h⟩ := bindS h
    injection h with h
    subst h
    have q0 := SD.as_ok e0
    clear e0
    have q1 := SD.as_ok e1
    clear e1
    simp only [encE, List.cons.injEq, and_true] at q0 q1
    simp only [List.map_cons, List.map_nil, Guse_qtree.d, ← q0, ← q1]
    try rfl
  · cases h
set_option maxRecDepth 10000 in
set_option maxHeartbeats 2000000 in
theorem Gvec_rvec.k_ok {cs : List SD} {x : Gvec_rvec} (h : Gvec_rvec.k cs = some x) : cs.map SD.toD = Gvec_rvec.d x := by
  unfold Gvec_rvec.k at h
  split at h
  · rename_i c0 c1
    obtain ⟨x0, e0, h⟩ := bindS h
    obtain ⟨x1, e1, h⟩ := bindS h
    injection h with h
    subst h
    have q0 := SD.as_ok e0
    clear e0
    have q1 := SD.as_ok e1
    clear e1
    simp only [encE, List.cons.injEq, and_true] at q0 q1
    simp only [List.map_cons, List.map_nil, Gvec_rvec.d, ← q0, ← q1]
    try rfl
  · cases h
set_option maxRecDepth 10000 in
set_option maxHeartbeats 2000000 in
theorem Gbounds_share.k_ok {cs : List SD} {x : Gbounds_share} (h : Gbounds_share.k cs = some x) : cs.map SD.toD = Gbounds_share.d x := by
  unfold Gbounds_share.k at h
  split at h
  · rename_i c0 c1
    obtain ⟨x0, e0, h⟩ := bindS h
    obtain ⟨x1, e1, h⟩ := bindS h
    injection h with h
    subst h
    have q0 := SD.as_ok e0
    clear e0
    have q1 := SD.as_ok e1
    clear e1
    simp only [encE, List.cons.injEq, and_true] at q0 q1
    simp only [List.map_cons, List.map_nil, Gbounds_share.d, ← q0, ← q1]
    try rfl
  · cases h
theorem stK_ok : ∀ {i : Nat} {cs : List SD} {x : ST i}, stK i cs = some x → cs.map SD.toD = stD i x
  | 0, _, (_ : GVec), h => GVec.k_ok h
  | 1, _, (_ : GAsk), h => GAsk.k_ok h
  | 2, _, (_ : GApp), h => GApp.k_ok h
  | 3, _, (_ : GCap), h => GCap.k_ok h
  | 4, _, (_ : GQueue), h => GQueue.k_ok h
  | 5, _, (_ : GConf), h => GConf.k_ok h
  | 6, _, (_ : GCont), h => GCont.k_ok h
  | 7, _, (_ : GNode), h => GNode.k_ok h
  | 8, _, (_ : GPlan), h => GPlan.k_ok h
  | 9, _, (_ : GInput), h => GInput.k_ok h
  | 10, _, (_ : GOutput), h => GOutput.k_ok h
  | 11, _, (_ : GSlot), h => GSlot.k_ok h
  | 12, _, (_ : GState), h => GState.k_ok h
  | 13, _, (_ : GRawQueue_law5), h => GRawQueue_law5.k_ok h
  | 14, _, (_ : GRaw_law5), h => GRaw_law5.k_ok h
  | 15, _, (_ : GAct_law7), h => GAct_law7.k_ok h
  | 16, _, (_ : GScript_law7), h => GScript_law7.k_ok h
  | 17, _, (_ : Gfrac_ref1), h => Gfrac_ref1.k_ok h
  | 18, _, (_ : GShare_ref16), h => GShare_ref16.k_ok h
  | 19, _, (_ : Gload_order), h => Gload_order.k_ok h
  | 20, _, (_ : Gbranch_qtree), h => Gbranch_qtree.k_ok h
  | 21, _, (_ : Ggrowth_qtree), h => Ggrowth_qtree.k_ok h
  | 22, _, (_ : Guse_qtree), h => Guse_qtree.k_ok h
  | 23, _, (_ : Gvec_rvec), h => Gvec_rvec.k_ok h
  | 24, _, (_ : Gbounds_share), h => Gbounds_share.k_ok h
  | _ + 25, _, x, h => by
    have h2 : none = some x := h
    cases h2
end Go.Proofs.Ytjeeclabnimbbaa
