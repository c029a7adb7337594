/- As XSched, with a plan that may part: where two steps may come up, each is followed by a plan of its own. -/
import Derived.Test.YtffioglbgnbieaaSched
namespace Go.Proofs.Ytffioglbgnbieaa
open Go.RowKit

inductive Pl where
  | done
  | free (i : Nat) (p : Pl)
  | step (i : Nat) (p : Pl)
  | two (i j : Nat) (p q : Pl)
def lenT : Pl → Nat
  | .done => 0
  | .free _ p => lenT p + 1
  | .step _ p => lenT p + 1
  | .two _ _ p _ => lenT p + 1

section
variable {P : Program} {ops : Array Oper} {Q : Exit → Act → World → Prop} {md : Region.Mode} {L : World → World → Prop}

def planT (md : Region.Mode) (ops : Array Oper) : Pl → Array Bool → Bool
  | .done, listed => (Region.ready md ops listed).isEmpty
  | .free i p, listed => (Region.ready md ops listed).contains i && Region.free md ops listed i && planT md ops p (listed.setIfInBounds i true)
  | .step i p, listed => (Region.ready md ops listed == [i]) && planT md ops p (listed.setIfInBounds i true)
  | .two i j p q, listed => (Region.ready md ops listed == [i, j]) && decide (lenT q = lenT p) && planT md ops p (listed.setIfInBounds i true) && planT md ops q (listed.setIfInBounds j true)

def wpT (P : Program) (ops : Array Oper) (Q : Exit → Act → World → Prop) (L : World → World → Prop) : Pl → Act → World → Prop
  | .done, a, W => ∀ w1, Ext W w1 → Q .normal a w1
  | .free i p, a, W => ∃ o v, ops[i]? = some o ∧ YieldsL P ops L W o v a ∧ wpT P ops Q L p (a.put o.dst v) W
  | .step i p, a, W => ∀ w1, Ext W w1 → wpOp P ops Q i (fun a' w' => L w1 w' ∧ wpT P ops Q L p a' w') a w1
  | .two i j p q, a, W => ∀ w1, Ext W w1 → wpOp P ops Q i (fun a' w' => L w1 w' ∧ wpT P ops Q L p a' w') a w1 ∧ wpOp P ops Q j (fun a' w' => L w1 w' ∧ wpT P ops Q L q a' w') a w1

theorem wpW_of_wpT (hL : Way L) (hsel : Region.noSelect ops = true) (hQ : ∀ c (a : Act) (d : Tmp) v w, Q (.panic c) (a.put (some d) v) w → Q (.panic c) a w) :
    ∀ (s : Pl) (listed : Array Bool) (a : Act) (W : World), planT md ops s listed = true → wpT P ops Q L s a W → wpW P md ops Q L (lenT s) listed a W
  | .done, listed, a, W, hB, h => ⟨by simpa [planT] using hB, h⟩
  | .free i p, listed, a, W, hB, h => by
    simp only [planT, Bool.and_eq_true] at hB
    obtain ⟨⟨hr, hf⟩, hB'⟩ := hB
    obtain ⟨o, v, h0, hy, hK⟩ := h
    exact wpW_first hL h0 (Region.noSelect_spec hsel) (fun c a w => by cases hd : o.dst with | none => exact fun h => h | some d => exact hQ c a d v w) (lenT p) listed a W
      (Region.free_spec h0 hf) (by simpa using hr) hy (wpW_of_wpT hL hsel hQ p _ _ _ hB' hK)
  | .step i p, listed, a, W, hB, h => by
    simp only [planT, Bool.and_eq_true, beq_iff_eq] at hB
    obtain ⟨hr, hB'⟩ := hB
    refine ⟨fun h0 => (by rw [hr] at h0; cases h0), fun w1 k1 j hj => ?_⟩
    rw [hr, List.mem_singleton] at hj
    subst hj
    exact wpOp_mono (fun a' w' h' => ⟨h'.1, wpW_of_wpT hL hsel hQ p _ _ _ hB' h'.2⟩) (h w1 k1)
  | .two i j p q, listed, a, W, hB, h => by
    simp only [planT, Bool.and_eq_true, beq_iff_eq, decide_eq_true_eq] at hB
    obtain ⟨⟨⟨hr, hl⟩, hp⟩, hq⟩ := hB
    refine ⟨fun h0 => (by rw [hr] at h0; cases h0), fun w1 k1 m hm => ?_⟩
    rw [hr] at hm
    rcases List.mem_cons.1 hm with rfl | hm
    · exact wpOp_mono (fun a' w' h' => ⟨h'.1, wpW_of_wpT hL hsel hQ p _ _ _ hp h'.2⟩) (h w1 k1).1
    · rw [List.mem_singleton] at hm
      subst hm
      have e : lenT p = lenT q := hl.symm
      exact wpOp_mono (fun a' w' h' => ⟨h'.1, by rw [e]; exact wpW_of_wpT hL hsel hQ q _ _ _ hq h'.2⟩) (h w1 k1).2

theorem wp_region_tree (L : World → World → Prop) (hL : Way L) {id : Nat} {a : Act} {w : World} {l : List Oper} (s : Pl) (hm : P.follows .mixedOrders = true)
    (hB : (Region.noSelect l.toArray && decide (lenT s ≤ l.toArray.size) && planT .any l.toArray s (Array.replicate l.toArray.size false)) = true)
    (hQ : ∀ c (a : Act) (d : Tmp) v w, Q (.panic c) (a.put (some d) v) w → Q (.panic c) a w)
    (h : wpT P l.toArray Q L s a w.drew) : (Code.region id l.toArray true).wp P Q a w := by
  simp only [Bool.and_eq_true, decide_eq_true_eq] at hB
  obtain ⟨⟨hsel, hle⟩, hB⟩ := hB
  exact wp_region_any hm (wpW_more _ hle (wpAny_of_wpW _ _ _ _ (wpW_of_wpT (md := .any) hL hsel hQ s _ a w.drew hB h)))

variable {l : List Oper}
theorem tree_free {W : World} {i : Nat} {s : Pl} {a : Act} (o : Oper) (v : Value) (hi : l[i]? = some o) (hw : Region.wanted o (yielded l.toArray a.tmps) = true)
    (h : ∀ w1, L W w1 → OkX P v w1 ((execOp a.eval o).run P w1)) (hr : wpT P l.toArray Q L s (a.put o.dst v) W) : wpT P l.toArray Q L (.free i s) a W := ⟨o, v, by simpa using hi, .inl ⟨hw, h⟩, hr⟩
theorem tree_skip {W : World} {i : Nat} {s : Pl} {a : Act} (o : Oper) (hi : l[i]? = some o) (hw : Region.wanted o (yielded l.toArray a.tmps) = false)
    (hr : wpT P l.toArray Q L s (a.put o.dst undef) W) : wpT P l.toArray Q L (.free i s) a W := ⟨o, undef, by simpa using hi, .inr ⟨hw, rfl⟩, hr⟩
theorem top_of {i : Nat} {a : Act} {w1 : World} (o : Oper) {K : Act → World → Prop} (hi : l[i]? = some o) (hw : Region.wanted o (yielded l.toArray a.tmps) = true) (h : o.wp P a w1 K Q) : wpOp P l.toArray Q i K a w1 := by
  have hi' : l.toArray[i]? = some o := by simpa using hi
  unfold Go.wpOp
  simp only [hi', hw, if_true]
  exact .inl h
theorem tree_step {W : World} {i : Nat} {s : Pl} {a : Act} (o : Oper) (hi : l[i]? = some o) (hw : Region.wanted o (yielded l.toArray a.tmps) = true)
    (h : ∀ w1, Ext W w1 → o.wp P a w1 (fun a' w' => L w1 w' ∧ wpT P l.toArray Q L s a' w') Q) : wpT P l.toArray Q L (.step i s) a W := fun w1 k1 => top_of o hi hw (h w1 k1)
theorem tree_two {W : World} {i j : Nat} {p q : Pl} {a : Act} (o o' : Oper) (hi : l[i]? = some o) (hw : Region.wanted o (yielded l.toArray a.tmps) = true) (hi' : l[j]? = some o') (hw' : Region.wanted o' (yielded l.toArray a.tmps) = true)
    (h1 : ∀ w1, Ext W w1 → o.wp P a w1 (fun a' w' => L w1 w' ∧ wpT P l.toArray Q L p a' w') Q)
    (h2 : ∀ w1, Ext W w1 → o'.wp P a w1 (fun a' w' => L w1 w' ∧ wpT P l.toArray Q L q a' w') Q) : wpT P l.toArray Q L (.two i j p q) a W := fun w1 k1 => ⟨top_of o hi hw (h1 w1 k1), top_of o' hi' hw' (h2 w1 k1)⟩
theorem tree_done {W : World} {a : Act} (h : ∀ w1, Ext W w1 → Q .normal a w1) : wpT P l.toArray Q L .done a W := h
end
end Go.Proofs.Ytffioglbgnbieaa
