/- Regions that draw their order: operations that yield one value in every world that may come (a relation L of the prover's own says which) are taken at once; a call, a store, a new block is carried out where nothing else may come up. -/
import Derived.Test.YtffioglbgnbieaaRegJ
namespace Go.Proofs.Ytffioglbgnbieaa
open Go.RowKit

section
variable {P : Program} {ops : Array Oper} {Q : Exit → Act → World → Prop} {md : Region.Mode} {L : World → World → Prop}


def YieldsL (P : Program) (ops : Array Oper) (L : World → World → Prop) (W : World) (o : Oper) (v : Value) (a : Act) : Prop :=
  (Region.wanted o (yielded ops a.tmps) = true ∧ ∀ w, L W w → OkX P v w ((execOp a.eval o).run P w)) ∨
  (Region.wanted o (yielded ops a.tmps) = false ∧ v = undef)

/-- L may be followed on and on. -/
structure Way (L : World → World → Prop) : Prop where
  ext : ∀ {a b}, Ext a b → L a b
  trans : ∀ {a b c}, L a b → L b c → L a c

theorem YieldsL.of_same {W : World} {o : Oper} {v : Value} {a a' : Act} (hy : YieldsL P ops L W o v a) (he : execOp a'.eval o = execOp a.eval o)
    (hw : Region.wanted o (yielded ops a'.tmps) = Region.wanted o (yielded ops a.tmps)) : YieldsL P ops L W o v a' := by
  unfold YieldsL at *
  rw [he, hw]
  exact hy

theorem YieldsL.later (hL : Way L) {W W' : World} {o : Oper} {v : Value} {a : Act} (hy : YieldsL P ops L W o v a) (h : L W W') : YieldsL P ops L W' o v a :=
  hy.imp (fun ⟨hw, hv⟩ => ⟨hw, fun w k => hv w (hL.trans h k)⟩) id

theorem YieldsL.wpOp {W w : World} {i : Nat} {o : Oper} {v : Value} {a : Act} (hi : ops[i]? = some o) (hy : YieldsL P ops L W o v a) (hW : L W w)
    {K : Act → World → Prop} (h : ∀ w', Ext w w' → K (a.put o.dst v) w') : wpOp P ops Q i K a w := by
  unfold Go.wpOp
  simp only [hi]
  rcases hy with ⟨hw, hv⟩ | ⟨hw, rfl⟩
  · simp only [hw, if_true]
    refine .inl ?_
    unfold Oper.wp
    have := hv w hW
    generalize (execOp a.eval o).run P w = r at *
    cases r with
    | ok n w' =>
      cases n <;> simp only [OkX] at this <;> simp only [Oper.upon]
      case value u => rw [this.1]; exact h _ this.2
      case enter f args =>
        refine Calls.mono this.2 fun e w'' he => ?_
        rw [he.1]
        exact h _ (this.1.trans he.2)
    | halt x w' => simp only [OkX] at this
  · simp only [hw, Bool.false_eq_true, if_false]; exact h _ (Ext.refl _)

theorem wpOp_putL {j : Nat} {W : World} {oi oj : Oper} {v : Value} (hj : ops[j]? = some oj) (hap : oi.apart ops oj = true)
    (hsi : ∀ cs b, oi.op ≠ .select cs b) (hsj : ∀ cs b, oj.op ≠ .select cs b)
    (hQ : ∀ c a w, Q (.panic c) (a.put oi.dst v) w → Q (.panic c) a w) {K : Act → World → Prop} {a : Act} {w : World}
    (hy : YieldsL P ops L W oi v a) (h : wpOp P ops Q j K (a.put oi.dst v) w) :
    wpOp P ops Q j (fun a' w' => YieldsL P ops L W oi v a' ∧ K (a'.put oi.dst v) w') a w := by
  obtain ⟨h1, h2, h3⟩ := Oper.apart_spec hap
  have keep : ∀ (a : Act), YieldsL P ops L W oi v a → ∀ u, YieldsL P ops L W oi v (a.put oj.dst u) := fun a hy u =>
    hy.of_same (execOp_put oi hsi a oj.dst u h3) (wanted_put oi a oj.dst u h3)
  have keepD : ∀ d, YieldsL P ops L W oi v { a with defers := d :: a.defers } := fun d => hy.of_same rfl rfl
  unfold Go.wpOp at *
  simp only [hj] at *
  rw [wanted_put oj a oi.dst v h1] at h
  split
  · rename_i hw
    simp only [hw, if_true] at h
    rcases h with h | ⟨hasks, hlets⟩
    case inr => exact .inr ⟨by unfold Oper.asks at *; rw [execOp_put oj hsj a oi.dst v h1] at hasks; exact hasks, hlets⟩
    refine .inl ?_
    unfold Oper.wp at *
    rw [execOp_put oj hsj a oi.dst v h1] at h
    generalize (execOp a.eval oj).run P w = r at *
    cases r with
    | ok n w' =>
      cases n <;> simp only [Oper.upon] at h ⊢
      case value u => exact ⟨keep a hy u, by rw [← Act.put_comm a v u h2]; exact h⟩
      case skip => exact ⟨keep a hy _, by rw [← Act.put_comm a v undef h2]; exact h⟩
      case defer d =>
        refine ⟨keep _ (keepD d) _, ?_⟩
        rw [← Act.put_comm _ v undef h2, ← Act.put_defers]
        exact h
      case enter f args =>
        refine Calls.mono h fun e w'' he => ?_
        cases e with
        | returned u => exact ⟨keep a hy u, by rw [← Act.put_comm a v u h2]; exact he⟩
        | panicked c => exact hQ _ _ _ he
        | outgrown => exact he
      case row row args => exact Rows.mono h fun u w'' he => ⟨keep a hy u, by rw [← Act.put_comm a v u h2]; exact he⟩
    | halt x w' =>
      cases x <;> simp only [Oper.upon] at h ⊢
      case panic u => exact hQ _ _ _ h
  · rename_i hw
    simp only [hw] at h
    exact ⟨keep a hy _, by rw [← Act.put_comm a v undef h2]; exact h⟩

/-- Whatever order is picked from here on: what is taken at once lays at most new blocks, what is a step follows L. -/
def wpW (P : Program) (md : Region.Mode) (ops : Array Oper) (Q : Exit → Act → World → Prop) (L : World → World → Prop) : Nat → Array Bool → Act → World → Prop
  | 0, listed, a, w => Region.ready md ops listed = [] ∧ ∀ w1, Ext w w1 → Q .normal a w1
  | f + 1, listed, a, w => (Region.ready md ops listed = [] → ∀ w1, Ext w w1 → Q .normal a w1) ∧ ∀ w1, Ext w w1 →
      ∀ i ∈ Region.ready md ops listed, wpOp P ops Q i (fun a' w' => L w1 w' ∧ wpW P md ops Q L f (listed.setIfInBounds i true) a' w') a w1

theorem wpW.later : ∀ {f : Nat} {listed : Array Bool} {a : Act} {w w' : World}, wpW P md ops Q L f listed a w → Ext w w' → wpW P md ops Q L f listed a w'
  | 0, _, _, _, _, h, k => ⟨h.1, fun w1 k1 => h.2 w1 (k.trans k1)⟩
  | _ + 1, _, _, _, _, h, k => ⟨fun h0 w1 k1 => h.1 h0 w1 (k.trans k1), fun w1 k1 => h.2 w1 (k.trans k1)⟩

theorem wpAny_of_wpW : ∀ (f : Nat) (listed : Array Bool) (a : Act) (w : World), wpW P md ops Q L f listed a w → wpAny P md ops Q f listed a w
  | 0, _, _, _, h => ⟨h.1, h.2 _ (Ext.refl _)⟩
  | f + 1, _, _, _, h => ⟨fun h0 => h.1 h0 _ (Ext.refl _), fun i hi => wpOp_mono (fun a' w' h' => wpAny_of_wpW f _ a' w' h'.2) (h.2 _ (Ext.refl _) i hi)⟩

theorem wpW_first (hL : Way L) {i : Nat} {oi : Oper} {v : Value} (hi : ops[i]? = some oi) (hsel : ∀ (j : Nat) (o : Oper) cs b, ops[j]? = some o → o.op ≠ .select cs b)
    (hQ : ∀ c a w, Q (.panic c) (a.put oi.dst v) w → Q (.panic c) a w) :
    ∀ (f : Nat) (listed : Array Bool) (a : Act) (w : World),
      (∀ j oj, ops[j]? = some oj → j ≠ i → listed.getD j true = false → (∀ e ∈ oj.after, Region.binds md e = true → e.on ≠ i) → oi.apart ops oj = true) →
      i ∈ Region.ready md ops listed → YieldsL P ops L w oi v a →
      wpW P md ops Q L f (listed.setIfInBounds i true) (a.put oi.dst v) w → wpW P md ops Q L (f + 1) listed a w := by
  intro f
  induction f with
  | zero =>
    intro listed a w _ hr hy H
    refine ⟨fun h => (by rw [h] at hr; cases hr), fun w1 k1 j hj => ?_⟩
    by_cases hji : j = i
    · subst hji; exact hy.wpOp hi (hL.ext k1) fun w' k' => ⟨hL.ext k', wpW.later H (k1.trans k')⟩
    · have := ready_mono hj hji
      rw [H.1] at this
      cases this
  | succ f ih =>
    intro listed a w hfree hr hy H
    have hun := (mem_ready.1 hr).1
    refine ⟨fun h => (by rw [h] at hr; cases hr), fun w1 k1 j hj => ?_⟩
    by_cases hji : j = i
    · subst hji; exact hy.wpOp hi (hL.ext k1) fun w' k' => ⟨hL.ext k', wpW.later H (k1.trans k')⟩
    · have h1 := H.2 w1 k1 j (ready_mono hj hji)
      obtain ⟨hjun, oj, hoj, hall⟩ := mem_ready.1 hj
      have hnot : ∀ e ∈ oj.after, Region.binds md e = true → e.on ≠ i := fun e he hb heq => by
        have h1 := hall e he hb
        rw [heq, getD_both hun] at h1
        cases h1
      have hfree' : ∀ k ok, ops[k]? = some ok → k ≠ i → (listed.setIfInBounds j true).getD k true = false →
          (∀ e ∈ ok.after, Region.binds md e = true → e.on ≠ i) → oi.apart ops ok = true := fun k ok hk hki hun hno => by
        refine hfree k ok hk hki ?_ hno
        by_cases hjk : j = k
        · subst hjk; exact hjun
        · rw [getD_set_ne true hjk] at hun; exact hun
      have h2 := wpOp_putL hoj (hfree j oj hoj hji hjun hnot) (fun cs b => hsel i oi cs b hi) (fun cs b => hsel j oj cs b hoj) hQ hy h1
      refine wpOp_mono (fun a' w' h3 => ⟨h3.2.1, ih (listed.setIfInBounds j true) a' w' hfree' (ready_mono hr (Ne.symm hji)) (h3.1.later hL (hL.trans (hL.ext k1) h3.2.1)) ?_⟩) h2
      rw [Array.setIfInBounds_comm _ _ hji]
      exact h3.2.2

/-- The plan fits the region: what is marked may be taken at once, all else comes up alone. -/
def schedB (md : Region.Mode) (ops : Array Oper) : List (Nat × Bool) → Array Bool → Bool
  | [], listed => (Region.ready md ops listed).isEmpty
  | (i, true) :: s, listed => (Region.ready md ops listed).contains i && Region.free md ops listed i && schedB md ops s (listed.setIfInBounds i true)
  | (i, false) :: s, listed => (Region.ready md ops listed == [i]) && schedB md ops s (listed.setIfInBounds i true)

/-- The plan, carried out: W is the world behind the last step; whatever came since has laid new blocks at most. -/
def wpS (P : Program) (ops : Array Oper) (Q : Exit → Act → World → Prop) (L : World → World → Prop) : List (Nat × Bool) → Act → World → Prop
  | [], a, W => ∀ w1, Ext W w1 → Q .normal a w1
  | (i, true) :: s, a, W => ∃ o v, ops[i]? = some o ∧ YieldsL P ops L W o v a ∧ wpS P ops Q L s (a.put o.dst v) W
  | (i, false) :: s, a, W => ∀ w1, Ext W w1 → wpOp P ops Q i (fun a' w' => L w1 w' ∧ wpS P ops Q L s a' w') a w1

/-- Whatever is taken at once goes into one of these slots, or none. -/
def intoB (ops : Array Oper) (ds : Tmp → Bool) (s : List (Nat × Bool)) : Bool := s.all fun p => !p.2 || ((ops[p.1]?).all fun o => o.dst.all ds)

theorem wpW_of_wpS (hL : Way L) (hsel : Region.noSelect ops = true) (ds : Tmp → Bool) (hQ : ∀ c (a : Act) (d : Tmp) v w, ds d = true → Q (.panic c) (a.put (some d) v) w → Q (.panic c) a w) :
    ∀ (s : List (Nat × Bool)) (listed : Array Bool) (a : Act) (W : World), intoB ops ds s = true → schedB md ops s listed = true → wpS P ops Q L s a W → wpW P md ops Q L s.length listed a W
  | [], listed, a, W, _, hB, h => ⟨by simpa [schedB] using hB, h⟩
  | (i, true) :: s, listed, a, W, hI, hB, h => by
    simp only [intoB, List.all_cons, Bool.and_eq_true, Bool.not_true, Bool.false_or] at hI
    obtain ⟨hI1, hI2⟩ := hI
    simp only [schedB, Bool.and_eq_true] at hB
    obtain ⟨⟨hr, hf⟩, hB'⟩ := hB
    obtain ⟨o, v, h0, hy, hK⟩ := h
    exact wpW_first hL h0 (Region.noSelect_spec hsel) (fun c a w => by cases hd : o.dst with | none => exact fun h => h | some d => exact hQ c a d v w (by simpa [h0, hd] using hI1)) s.length listed a W
      (Region.free_spec h0 hf) (by simpa using hr) hy (wpW_of_wpS hL hsel ds hQ s _ _ _ hI2 hB' hK)
  | (i, false) :: s, listed, a, W, hI, hB, h => by
    simp only [intoB, List.all_cons, Bool.and_eq_true] at hI
    simp only [schedB, Bool.and_eq_true, beq_iff_eq] at hB
    obtain ⟨hr, hB'⟩ := hB
    refine ⟨fun h0 => (by rw [hr] at h0; cases h0), fun w1 k1 j hj => ?_⟩
    rw [hr, List.mem_singleton] at hj
    subst hj
    exact wpOp_mono (fun a' w' h' => ⟨h'.1, wpW_of_wpS hL hsel ds hQ s _ _ _ hI.2 hB' h'.2⟩) (h w1 k1)

theorem wpW_more : ∀ (f : Nat) {g : Nat} {listed : Array Bool} {a : Act} {w : World}, f ≤ g → wpAny P md ops Q f listed a w → wpAny P md ops Q g listed a w
  | 0, 0, _, _, _, _, h => h
  | 0, g + 1, _, _, _, _, h => ⟨fun _ => h.2, by rw [h.1]; simp⟩
  | f + 1, g + 1, _, _, _, hle, h => ⟨h.1, fun i hi => wpOp_mono (fun a' w' h' => wpW_more f (by omega) h') (h.2 i hi)⟩
  | f + 1, 0, _, _, _, hle, _ => absurd hle (by omega)

/-- **The law.** -/
theorem wp_region_sched (L : World → World → Prop) (hL : Way L) {id : Nat} {a : Act} {w : World} {l : List Oper} (s : List (Nat × Bool)) (hm : P.follows .mixedOrders = true)
    (hB : (Region.noSelect l.toArray && decide (s.length ≤ l.toArray.size) && schedB .any l.toArray s (Array.replicate l.toArray.size false)) = true)
    (hQ : ∀ c (a : Act) (d : Tmp) v w, Q (.panic c) (a.put (some d) v) w → Q (.panic c) a w)
    (h : wpS P l.toArray Q L s a w.drew) : (Code.region id l.toArray true).wp P Q a w := by
  simp only [Bool.and_eq_true, decide_eq_true_eq] at hB
  obtain ⟨⟨hsel, hle⟩, hB⟩ := hB
  exact wp_region_any hm (wpW_more _ hle (wpAny_of_wpW _ _ _ _ (wpW_of_wpS (md := .any) hL hsel (fun _ => true) (fun c a d v w _ => hQ c a d v w) s _ a w.drew (by simp [intoB]) hB h)))

/-- In a function that defers: what is taken at once goes into slots that no result is read from. -/
theorem wp_region_schedD (L : World → World → Prop) (hL : Way L) {id : Nat} {a : Act} {w : World} {l : List Oper} (s : List (Nat × Bool)) (ds : Tmp → Bool) (hm : P.follows .mixedOrders = true)
    (hB : (Region.noSelect l.toArray && decide (s.length ≤ l.toArray.size) && intoB l.toArray ds s && schedB .any l.toArray s (Array.replicate l.toArray.size false)) = true)
    (hQ : ∀ c (a : Act) (d : Tmp) v w, ds d = true → Q (.panic c) (a.put (some d) v) w → Q (.panic c) a w)
    (h : wpS P l.toArray Q L s a w.drew) : (Code.region id l.toArray true).wp P Q a w := by
  simp only [Bool.and_eq_true, decide_eq_true_eq] at hB
  obtain ⟨⟨⟨hsel, hle⟩, hI⟩, hB⟩ := hB
  exact wp_region_any hm (wpW_more _ hle (wpAny_of_wpW _ _ _ _ (wpW_of_wpS (md := .any) hL hsel ds hQ s _ a w.drew hI hB h)))

/-! ### The moves: over the list of operations, the frame a list too -/
variable {l : List Oper}
theorem want_none {o : Oper} {a : Act} (h : o.guard = none) : Region.wanted o (yielded l.toArray a.tmps) = true := by simp [Region.wanted, h]
theorem yielded_at {oj : Oper} {t j : Nat} {b : Bool} {ts : List Value} {ds : List Deferred} (h1 : l[j]? = some oj) (h2 : oj.dst = some t) (h3 : ts[t]? = some (.bool b)) : yielded l.toArray (Act.mk ts.toArray ds).tmps j = some b := by
  have : l.toArray[j]? = some oj := by simpa using h1
  simp [yielded, this, h2, h3]
theorem want_some {o oj : Oper} {t j : Nat} {b : Bool} {ts : List Value} {ds : List Deferred} (h : o.guard = some (j, b)) (h1 : l[j]? = some oj) (h2 : oj.dst = some t) (h3 : ts[t]? = some (.bool b)) :
    Region.wanted o (yielded l.toArray (Act.mk ts.toArray ds).tmps) = true := by
  have hy := yielded_at (ds := ds) h1 h2 h3
  unfold Region.wanted
  rw [h]
  simp only [hy, beq_self_eq_true]
theorem want_not {o oj : Oper} {t j : Nat} {b c : Bool} {ts : List Value} {ds : List Deferred} (h : o.guard = some (j, b)) (h1 : l[j]? = some oj) (h2 : oj.dst = some t) (h3 : ts[t]? = some (.bool c)) (h4 : c = !b) :
    Region.wanted o (yielded l.toArray (Act.mk ts.toArray ds).tmps) = false := by
  have hy := yielded_at (ds := ds) h1 h2 h3
  unfold Region.wanted
  rw [h]
  simp only [hy, h4]
  cases b <;> rfl

theorem sched_free {W : World} {i : Nat} {s : List (Nat × Bool)} {a : Act} (o : Oper) (v : Value) (hi : l[i]? = some o) (hw : Region.wanted o (yielded l.toArray a.tmps) = true)
    (h : ∀ w1, L W w1 → OkX P v w1 ((execOp a.eval o).run P w1)) (hr : wpS P l.toArray Q L s (a.put o.dst v) W) : wpS P l.toArray Q L ((i, true) :: s) a W := ⟨o, v, by simpa using hi, .inl ⟨hw, h⟩, hr⟩
theorem sched_skip {W : World} {i : Nat} {s : List (Nat × Bool)} {a : Act} (o : Oper) (hi : l[i]? = some o) (hw : Region.wanted o (yielded l.toArray a.tmps) = false)
    (hr : wpS P l.toArray Q L s (a.put o.dst undef) W) : wpS P l.toArray Q L ((i, true) :: s) a W := ⟨o, undef, by simpa using hi, .inr ⟨hw, rfl⟩, hr⟩
theorem sched_step {W : World} {i : Nat} {s : List (Nat × Bool)} {a : Act} (o : Oper) (hi : l[i]? = some o) (hw : Region.wanted o (yielded l.toArray a.tmps) = true)
    (h : ∀ w1, Ext W w1 → o.wp P a w1 (fun a' w' => L w1 w' ∧ wpS P l.toArray Q L s a' w') Q) : wpS P l.toArray Q L ((i, false) :: s) a W := by
  intro w1 k1
  have hi' : l.toArray[i]? = some o := by simpa using hi
  unfold Go.wpOp
  simp only [hi', hw, if_true]
  exact .inl (h w1 k1)
theorem sched_pass (hL : Way L) {W : World} {i : Nat} {s : List (Nat × Bool)} {a : Act} (o : Oper) (hi : l[i]? = some o) (hw : Region.wanted o (yielded l.toArray a.tmps) = false)
    (hr : ∀ w1, Ext W w1 → wpS P l.toArray Q L s (a.put o.dst undef) w1) : wpS P l.toArray Q L ((i, false) :: s) a W := by
  intro w1 k1
  have hi' : l.toArray[i]? = some o := by simpa using hi
  unfold Go.wpOp
  simp only [hi', hw, Bool.false_eq_true, if_false]
  exact ⟨hL.ext (Ext.refl _), hr w1 k1⟩
theorem sched_done {W : World} {a : Act} (h : ∀ w1, Ext W w1 → Q .normal a w1) : wpS P ops Q L [] a W := h

end

theorem ext_way : Way Ext := ⟨fun h => h, Ext.trans⟩

end Go.Proofs.Ytffioglbgnbieaa
