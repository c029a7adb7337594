/- The two disks side by side. -/
import Derived.Test.YtpinpljmabhdhaaDkS
import Derived.Test.YtpinpljmabhdhaaSched
namespace Go.Proofs.Ytpinpljmabhdhaa
open Go.RowKit

def dall (R : Nat) (L : Option Nat × Option Nat) (k : Nat) : Prop := mine R L k ∨ L.2 = some k

/-- The one disk is at s, the other one at t; they share no block, nor has either a block of G. -/
structure Mid (w W : World) (R X : Nat) (G : Option Nat) (L : Option Nat × Option Nat) (bl bs : Option Nat) (s t : DS) : Prop where
  ext : Ext w W
  hX : w.heap.size ≤ X
  dk : Dk W w.heap.size R L s
  xk : XDk W X bl bs t
  apart : ∀ k, dall R L k → ¬ xmine X bl bs k
  g : ∀ k, G = some k → w.heap.size ≤ k ∧ k < W.heap.size ∧ ¬ dall R L k ∧ ¬ xmine X bl bs k

section
variable {w W W' : World} {R X : Nat} {G : Option Nat} {L : Option Nat × Option Nat} {bl bs : Option Nat} {s t s' : DS} {v : Value} {e : Ending}

theorem dall_lt (h : Dk W w.heap.size R L s) : ∀ k, dall R L k → k < W.heap.size := by
  rintro k (h1 | h1)
  · exact h.below k h1
  · exact h.snapB k h1

theorem Mid.dev (h : Mid w W R X G L bl bs s t) (k : Did W w.heap.size R L s' v e W') : e = .returned v ∧ ∃ L', Mid w W' R X G L' bl bs s' t := by
  obtain ⟨rfl, hf, L', hd, hk⟩ := k
  refine ⟨rfl, L', hf.ext h.ext h.dk.from, h.hX, hd, h.xk.foot hf (fun i hi hm => h.apart i (.inl hm) hi), fun i hi hx => ?_, fun i hi => ?_⟩
  · have hlt := h.xk.below i hx
    rcases hi with (rfl | hi) | hi
    · exact h.apart _ (.inl (.inl rfl)) hx
    · rcases hk.1 i hi with h1 | h1
      · exact h.apart i (.inl (.inr h1)) hx
      · omega
    · rcases hk.2 i hi with h1 | h1
      · exact h.apart i (.inr h1) hx
      · omega
  · obtain ⟨h1, h2, h3, h4⟩ := h.g i hi
    refine ⟨h1, Nat.lt_of_lt_of_le h2 hf.size, fun hd => ?_, h4⟩
    rcases hd with (rfl | hd) | hd
    · exact h3 (.inl (.inl rfl))
    · rcases hk.1 i hd with h5 | h5
      · exact h3 (.inl (.inr h5))
      · omega
    · rcases hk.2 i hd with h5 | h5
      · exact h3 (.inr h5)
      · omega

theorem Mid.ref (h : Mid w W R X G L bl bs s t) (k : XDid W X bl bs s' v e W') : e = .returned v ∧ ∃ bl' bs', Mid w W' R X G L bl' bs' s s' := by
  obtain ⟨rfl, hf, bl', bs', hd, hl, hs⟩ := k
  have hXn : ∀ i, dall R L i → i ≠ X := fun i hi e => h.apart i hi (.inl e)
  refine ⟨rfl, bl', bs', hf.ext h.ext (fun i e => by rw [e]; exact h.hX), h.hX, h.dk.foot hf (fun i hi e => hXn i (.inl hi) e) (fun i hi e => hXn i (.inr hi) e), hd, fun i hi hx => ?_, fun i hi => ?_⟩
  · have hlt := dall_lt h.dk i hi
    rcases hx with rfl | hx | hx
    · exact hXn _ hi rfl
    · rcases hl i hx with h1 | h1
      · exact h.apart i hi (.inr (.inl h1))
      · omega
    · rcases hs i hx with h1 | h1
      · exact h.apart i hi (.inr (.inr h1))
      · omega
  · obtain ⟨h1, h2, h3, h4⟩ := h.g i hi
    refine ⟨h1, Nat.lt_of_lt_of_le h2 hf.size, h3, fun hd => ?_⟩
    rcases hd with rfl | hd | hd
    · exact h4 (.inl rfl)
    · rcases hl i hd with h5 | h5
      · exact h4 (.inr (.inl h5))
      · omega
    · rcases hs i hd with h5 | h5
      · exact h4 (.inr (.inr h5))
      · omega

theorem Mid.more (h : Mid w W R X G L bl bs s t) (k : Ext W W') : Mid w W' R X G L bl bs s t :=
  ⟨h.ext.trans k, h.hX, h.dk.ext k, h.xk.ext k, h.apart, fun i hi => by obtain ⟨h1, h2, h3, h4⟩ := h.g i hi; exact ⟨h1, Nat.lt_of_lt_of_le h2 k.size, h3, h4⟩⟩

/-- A block of one's own that is new. -/
theorem Mid.own (h : Mid w W R X G L bl bs s t) (k : Ext W W') {g : Nat} (h1 : W.heap.size ≤ g) (h2 : g < W'.heap.size) : Mid w W' R X (some g) L bl bs s t := by
  have h' := h.more k
  refine ⟨h'.ext, h'.hX, h'.dk, h'.xk, h'.apart, fun i hi => ?_⟩
  injection hi with hi
  subst hi
  refine ⟨Nat.le_trans h.ext.size h1, h2, fun hd => ?_, fun hx => ?_⟩
  · have := dall_lt h.dk g hd; omega
  · have := h.xk.below g hx; omega

/-- That block turns. -/
theorem Mid.turn {g : Nat} (h : Mid w W R X (some g) L bl bs s t) (k : Foot (fun i => i = g) W W') : Mid w W' R X none L bl bs s t := by
  obtain ⟨h1, h2, h3, h4⟩ := h.g g rfl
  exact ⟨k.ext h.ext (fun i e => by rw [e]; exact h1), h.hX, h.dk.foot k (fun i hi e => h3 (by rw [← e]; exact .inl hi)) (fun i hi e => h3 (by rw [← e]; exact .inr hi)), h.xk.foot k (fun i hi e => h4 (by rw [← e]; exact hi)), h.apart, fun _ hi => by cases hi⟩

theorem foot_cell {S : Nat → Prop} {a b : World} (k : Foot S a b) {i o : Nat} {u : Value} (hc : a.cell? ⟨i, o, none⟩ = some u) (hS : ¬ S i) : b.cell? ⟨i, o, none⟩ = some u :=
  (World.cell?_of_block (k.block i (World.block_lt_of_cell? a _ hc) hS)).trans hc
theorem FW (S : Nat → Prop) : Way (Foot S) := ⟨Foot.of_ext, fun h k => h.trans k (fun _ _ h => h)⟩
theorem Foot.wide {S T : Nat → Prop} {a b : World} (h : Foot S a b) (hT : ∀ i, S i → T i) : Foot T a b := ⟨h.os, h.tape, h.output, h.size, fun i hi hn => h.block i hi (fun e => hn (hT i e))⟩
end

/-- Both at one state. -/
def Both (w W : World) (R X : Nat) (s : DS) : Prop := ∃ L bl bs, Mid w W R X none L bl bs s s

end Go.Proofs.Ytpinpljmabhdhaa
