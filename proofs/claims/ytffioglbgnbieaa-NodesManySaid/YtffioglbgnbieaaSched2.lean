/- As XSched, with two steps that may come up in either order. -/
import Derived.Test.YtffioglbgnbieaaSched
namespace Go.Proofs.Ytffioglbgnbieaa
open Go.RowKit

inductive Mv where
  | free (i : Nat)
  | step (i : Nat)
  | both (i j : Nat)

section
variable {P : Program} {ops : Array Oper} {Q : Exit → Act → World → Prop} {md : Region.Mode} {L : World → World → Prop}

def planB (md : Region.Mode) (ops : Array Oper) : List Mv → Array Bool → Bool
  | [], listed => (Region.ready md ops listed).isEmpty
  | .free i :: s, listed => (Region.ready md ops listed).contains i && Region.free md ops listed i && planB md ops s (listed.setIfInBounds i true)
  | .step i :: s, listed => (Region.ready md ops listed == [i]) && planB md ops s (listed.setIfInBounds i true)
  | .both i j :: s, listed => (Region.ready md ops listed == [i, j]) && (Region.ready md ops (listed.setIfInBounds i true) == [j]) && (Region.ready md ops (listed.setIfInBounds j true) == [i]) &&
      decide (i ≠ j) && planB md ops s ((listed.setIfInBounds i true).setIfInBounds j true)

def lenM : List Mv → Nat
  | [] => 0
  | .both _ _ :: s => lenM s + 2
  | _ :: s => lenM s + 1

def wpP (P : Program) (ops : Array Oper) (Q : Exit → Act → World → Prop) (L : World → World → Prop) : List Mv → Act → World → Prop
  | [], a, W => ∀ w1, Ext W w1 → Q .normal a w1
  | .free i :: s, a, W => ∃ o v, ops[i]? = some o ∧ YieldsL P ops L W o v a ∧ wpP P ops Q L s (a.put o.dst v) W
  | .step i :: s, a, W => ∀ w1, Ext W w1 → wpOp P ops Q i (fun a' w' => L w1 w' ∧ wpP P ops Q L s a' w') a w1
  | .both i j :: s, a, W => ∀ w1, Ext W w1 →
      wpOp P ops Q i (fun a' w' => L w1 w' ∧ ∀ w2, Ext w' w2 → wpOp P ops Q j (fun a'' w'' => L w2 w'' ∧ wpP P ops Q L s a'' w'') a' w2) a w1 ∧
      wpOp P ops Q j (fun a' w' => L w1 w' ∧ ∀ w2, Ext w' w2 → wpOp P ops Q i (fun a'' w'' => L w2 w'' ∧ wpP P ops Q L s a'' w'') a' w2) a w1

theorem wpW_of_wpP (hL : Way L) (hsel : Region.noSelect ops = true) (hQ : ∀ c (a : Act) (d : Tmp) v w, Q (.panic c) (a.put (some d) v) w → Q (.panic c) a w) :
    ∀ (s : List Mv) (listed : Array Bool) (a : Act) (W : World), planB md ops s listed = true → wpP P ops Q L s a W → wpW P md ops Q L (lenM s) listed a W
  | [], listed, a, W, hB, h => ⟨by simpa [planB] using hB, h⟩
  | .free i :: s, listed, a, W, hB, h => by
    simp only [planB, Bool.and_eq_true] at hB
    obtain ⟨⟨hr, hf⟩, hB'⟩ := hB
    obtain ⟨o, v, h0, hy, hK⟩ := h
    exact wpW_first hL h0 (Region.noSelect_spec hsel) (fun c a w => by cases hd : o.dst with | none => exact fun h => h | some d => exact hQ c a d v w) (lenM s) listed a W
      (Region.free_spec h0 hf) (by simpa using hr) hy (wpW_of_wpP hL hsel hQ s _ _ _ hB' hK)
  | .step i :: s, listed, a, W, hB, h => by
    simp only [planB, Bool.and_eq_true, beq_iff_eq] at hB
    obtain ⟨hr, hB'⟩ := hB
    refine ⟨fun h0 => (by rw [hr] at h0; cases h0), fun w1 k1 j hj => ?_⟩
    rw [hr, List.mem_singleton] at hj
    subst hj
    exact wpOp_mono (fun a' w' h' => ⟨h'.1, wpW_of_wpP hL hsel hQ s _ _ _ hB' h'.2⟩) (h w1 k1)
  | .both i j :: s, listed, a, W, hB, h => by
    simp only [planB, Bool.and_eq_true, beq_iff_eq, decide_eq_true_eq] at hB
    obtain ⟨⟨⟨⟨hr, hri⟩, hrj⟩, hij⟩, hB'⟩ := hB
    refine ⟨fun h0 => (by rw [hr] at h0; cases h0), fun w1 k1 m hm => ?_⟩
    rw [hr] at hm
    rcases List.mem_cons.1 hm with rfl | hm
    · refine wpOp_mono (fun a' w' h' => ⟨h'.1, fun h0 => (by rw [hri] at h0; cases h0), fun w2 k2 n hn => ?_⟩) (h w1 k1).1
      rw [hri, List.mem_singleton] at hn
      subst hn
      exact wpOp_mono (fun a'' w'' h'' => ⟨h''.1, wpW_of_wpP hL hsel hQ s _ _ _ hB' h''.2⟩) (h'.2 w2 k2)
    · rw [List.mem_singleton] at hm
      subst hm
      refine wpOp_mono (fun a' w' h' => ⟨h'.1, fun h0 => (by rw [hrj] at h0; cases h0), fun w2 k2 n hn => ?_⟩) (h w1 k1).2
      rw [hrj, List.mem_singleton] at hn
      subst hn
      rw [Array.setIfInBounds_comm _ _ (Ne.symm hij)]
      exact wpOp_mono (fun a'' w'' h'' => ⟨h''.1, wpW_of_wpP hL hsel hQ s _ _ _ hB' h''.2⟩) (h'.2 w2 k2)

theorem wp_region_plan (L : World → World → Prop) (hL : Way L) {id : Nat} {a : Act} {w : World} {l : List Oper} (s : List Mv) (hm : P.follows .mixedOrders = true)
    (hB : (Region.noSelect l.toArray && decide (lenM s ≤ l.toArray.size) && planB .any l.toArray s (Array.replicate l.toArray.size false)) = true)
    (hQ : ∀ c (a : Act) (d : Tmp) v w, Q (.panic c) (a.put (some d) v) w → Q (.panic c) a w)
    (h : wpP P l.toArray Q L s a w.drew) : (Code.region id l.toArray true).wp P Q a w := by
  simp only [Bool.and_eq_true, decide_eq_true_eq] at hB
  obtain ⟨⟨hsel, hle⟩, hB⟩ := hB
  exact wp_region_any hm (wpW_more _ hle (wpAny_of_wpW _ _ _ _ (wpW_of_wpP (md := .any) hL hsel hQ s _ a w.drew hB h)))

variable {l : List Oper}
theorem plan_free {W : World} {i : Nat} {s : List Mv} {a : Act} (o : Oper) (v : Value) (hi : l[i]? = some o) (hw : Region.wanted o (yielded l.toArray a.tmps) = true)
    (h : ∀ w1, L W w1 → OkX P v w1 ((execOp a.eval o).run P w1)) (hr : wpP P l.toArray Q L s (a.put o.dst v) W) : wpP P l.toArray Q L (.free i :: s) a W := ⟨o, v, by simpa using hi, .inl ⟨hw, h⟩, hr⟩
theorem plan_skip {W : World} {i : Nat} {s : List Mv} {a : Act} (o : Oper) (hi : l[i]? = some o) (hw : Region.wanted o (yielded l.toArray a.tmps) = false)
    (hr : wpP P l.toArray Q L s (a.put o.dst undef) W) : wpP P l.toArray Q L (.free i :: s) a W := ⟨o, undef, by simpa using hi, .inr ⟨hw, rfl⟩, hr⟩
theorem op_of {i : Nat} {a : Act} {w1 : World} (o : Oper) {K : Act → World → Prop} (hi : l[i]? = some o) (hw : Region.wanted o (yielded l.toArray a.tmps) = true) (h : o.wp P a w1 K Q) : wpOp P l.toArray Q i K a w1 := by
  have hi' : l.toArray[i]? = some o := by simpa using hi
  unfold Go.wpOp
  simp only [hi', hw, if_true]
  exact .inl h
theorem plan_step {W : World} {i : Nat} {s : List Mv} {a : Act} (o : Oper) (hi : l[i]? = some o) (hw : Region.wanted o (yielded l.toArray a.tmps) = true)
    (h : ∀ w1, Ext W w1 → o.wp P a w1 (fun a' w' => L w1 w' ∧ wpP P l.toArray Q L s a' w') Q) : wpP P l.toArray Q L (.step i :: s) a W := fun w1 k1 => op_of o hi hw (h w1 k1)
theorem plan_both {W : World} {i j : Nat} {s : List Mv} {a : Act}
    (h1 : ∀ w1, Ext W w1 → wpOp P l.toArray Q i (fun a' w' => L w1 w' ∧ ∀ w2, Ext w' w2 → wpOp P l.toArray Q j (fun a'' w'' => L w2 w'' ∧ wpP P l.toArray Q L s a'' w'') a' w2) a w1)
    (h2 : ∀ w1, Ext W w1 → wpOp P l.toArray Q j (fun a' w' => L w1 w' ∧ ∀ w2, Ext w' w2 → wpOp P l.toArray Q i (fun a'' w'' => L w2 w'' ∧ wpP P l.toArray Q L s a'' w'') a' w2) a w1) : wpP P l.toArray Q L (.both i j :: s) a W := fun w1 k1 => ⟨h1 w1 k1, h2 w1 k1⟩
theorem at_P {W : World} {s : List Mv} {a : Act} (h : ∀ W0, W0 = W → wpP P ops Q L s a W0) : wpP P ops Q L s a W := h W rfl
theorem plan_done {W : World} {a : Act} (h : ∀ w1, Ext W w1 → Q .normal a w1) : wpP P ops Q L [] a W := h

end

/-- All that was there at the start stays. -/
def LBelow (B : Nat) (a b : World) : Prop := B ≤ a.heap.size → Below B a b
theorem LBelow_way (B : Nat) : Way (LBelow B) := ⟨fun h hB => Below.mono h hB, fun h k hB => (h hB).trans (k (Nat.le_trans hB (h hB).size))⟩
theorem LBelow.ext {W w : World} (h : LBelow W.heap.size W.drew w) : Ext W w := (Ext.drew W).trans (h (Nat.le_refl _))

end Go.Proofs.Ytffioglbgnbieaa
