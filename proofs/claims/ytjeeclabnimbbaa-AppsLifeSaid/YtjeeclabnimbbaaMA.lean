/- Texts RegJ, App, Byt, ModG, Sub, Open, OpenR, BaG, PmA, PmB, PmC, PmD, PmDE, PmE, PmF, PmG, PmH, PmHc, PmI, in one. -/
import Derived.Test.YtjeeclabnimbbaaRows
import Derived.WalkKit
import Derived.Handy
import Derived.StillTail
import Derived.OrdersHeld
import Derived.Laws.AppendOwn
import Derived.Maps.AppendAt
import Derived.Deep.AppendSrc
import Derived.OwnWalk
import Derived.Below
import Derived.Laws.OwnMore
import Derived.Deep.AppendLies
import Derived.ProofKit
import Derived.Lib.Hide
import Derived.Laws.BytesArg
import Derived.Laws.IdiomStrings
import Derived.Laws.Slices
import Derived.Carry
import Derived.ChangeSlices
import Derived.OpenShut
import Derived.ChangeOld
import Derived.ChangeSame
import Derived.Deep.Slices
import Derived.IntWalk
import Derived.Outline
import Derived.Deep.QuietTactic
import Derived.BigQuiet
import Derived.WalkSmall
import Derived.Laws.Cells
import Derived.Laws.Rows
import Derived.Laws.StructEq
import Derived.Great.BuildSlice
import Derived.Laws.CopyOwn
import Derived.Laws.BytesString
/- Regions that draw their order and hold calls that make memory: every operation that yields one value in every later world, and lays at most new blocks, may be taken first; what is left (new blocks, stores) is walked behind it, in whatever later world. -/
namespace Go.Proofs.Ytjeeclabnimbbaa
open Go.RowKit

/-- w' is w with at most new blocks. -/
def Ext (w w' : World) : Prop := Below w.heap.size w w'

theorem Ext.refl (w : World) : Ext w w := Below.refl _ _
theorem Ext.trans {a b c : World} (h : Ext a b) (k : Ext b c) : Ext a c := Below.trans h (Below.mono k (Below.size h))
theorem Ext.drew (w : World) : Ext w w.drew := (Below.refl _ _).drew
theorem Ext.below {a b : World} (h : Ext a b) : Below a.heap.size a b := h
theorem Ext.size {a b : World} (h : Ext a b) : a.heap.size ≤ b.heap.size := Below.size h
theorem Ext.from {B : Nat} {w a b : World} (h : Ext a b) (hB : Below B w a) (hs : B ≤ a.heap.size) : Below B w b := hB.trans (Below.mono h hs)
theorem Ext.cell {a b : World} (h : Ext a b) {k o : Nat} {v : Value} (hc : a.cell? ⟨k, o, none⟩ = some v) : b.cell? ⟨k, o, none⟩ = some v := by
  rw [Below.cell h (p := ⟨k, o, none⟩) (World.block_lt_of_cell? a _ hc)]; exact hc
theorem Ext.free {a b : World} (h : Ext a b) {k o : Nat} {f : Bool} (hk : k < a.heap.size) (hc : a.frozen? ⟨k, o, none⟩ = f) : b.frozen? ⟨k, o, none⟩ = f := by
  rw [Below.frozen h (p := ⟨k, o, none⟩) hk]; exact hc

section
variable {P : Program} {ops : Array Oper} {Q : Exit → Act → World → Prop} {md : Region.Mode}

/-- What a run of an operation comes to: the value v, and at most new blocks. -/
def OkX (P : Program) (v : Value) (w : World) : Result Next → Prop
  | .ok (.value u) w' => u = v ∧ Ext w w'
  | .ok (.enter f args) w' => Ext w w' ∧ Calls P f args w' fun e w'' => e = .returned v ∧ Ext w' w''
  | _ => False

def YieldsX (P : Program) (ops : Array Oper) (W : World) (o : Oper) (v : Value) (a : Act) : Prop :=
  (Region.wanted o (yielded ops a.tmps) = true ∧ ∀ w, Ext W w → OkX P v w ((execOp a.eval o).run P w)) ∨
  (Region.wanted o (yielded ops a.tmps) = false ∧ v = undef)

theorem YieldsX.of_same {W : World} {o : Oper} {v : Value} {a a' : Act} (hy : YieldsX P ops W o v a) (he : execOp a'.eval o = execOp a.eval o)
    (hw : Region.wanted o (yielded ops a'.tmps) = Region.wanted o (yielded ops a.tmps)) : YieldsX P ops W o v a' := by
  unfold YieldsX at *
  rw [he, hw]
  exact hy

theorem YieldsX.later {W W' : World} {o : Oper} {v : Value} {a : Act} (hy : YieldsX P ops W o v a) (h : Ext W W') : YieldsX P ops W' o v a :=
  hy.imp (fun ⟨hw, hv⟩ => ⟨hw, fun w k => hv w (h.trans k)⟩) id

theorem YieldsX.wpOp {W w : World} {i : Nat} {o : Oper} {v : Value} {a : Act} (hi : ops[i]? = some o) (hy : YieldsX P ops W o v a) (hW : Ext W w)
    {K : Act → World → Prop} (h : ∀ w', Ext w w' → K (a.put o.dst v) w') : wpOp P ops Q i K a w := by
  unfold Go.wpOp
  simp only [hi]
  rcases hy with ⟨hw, hv⟩ | ⟨hw, rfl⟩
  · simp only [hw, if_true]
    refine .inl ?_
    unfold Oper.wp
    have := hv w hW
    generalize (execOp a.eval o).run P w = r at *
    cases r with
    | ok n w' =>
      cases n <;> simp only [OkX] at this <;> simp only [Oper.upon]
      case value u => rw [this.1]; exact h _ this.2
      case enter f args =>
        refine Calls.mono this.2 fun e w'' he => ?_
        rw [he.1]
        exact h _ (this.1.trans he.2)
    | halt x w' => simp only [OkX] at this
  · simp only [hw, Bool.false_eq_true, if_false]; exact h _ (Ext.refl _)

/-- One operation 'oj', apart from 'oi', comes first: what it does is not other, and 'oi' yields what it would have yielded. -/
theorem wpOp_putX {j : Nat} {W : World} {oi oj : Oper} {v : Value} (hj : ops[j]? = some oj) (hap : oi.apart ops oj = true)
    (hsi : ∀ cs b, oi.op ≠ .select cs b) (hsj : ∀ cs b, oj.op ≠ .select cs b)
    (hQ : ∀ c a w, Q (.panic c) (a.put oi.dst v) w → Q (.panic c) a w) {K : Act → World → Prop} {a : Act} {w : World}
    (hy : YieldsX P ops W oi v a) (h : wpOp P ops Q j K (a.put oi.dst v) w) :
    wpOp P ops Q j (fun a' w' => YieldsX P ops W oi v a' ∧ K (a'.put oi.dst v) w') a w := by
  obtain ⟨h1, h2, h3⟩ := Oper.apart_spec hap
  have keep : ∀ (a : Act), YieldsX P ops W oi v a → ∀ u, YieldsX P ops W oi v (a.put oj.dst u) := fun a hy u =>
    hy.of_same (execOp_put oi hsi a oj.dst u h3) (wanted_put oi a oj.dst u h3)
  have keepD : ∀ d, YieldsX P ops W oi v { a with defers := d :: a.defers } := fun d => hy.of_same rfl rfl
  unfold Go.wpOp at *
  simp only [hj] at *
  rw [wanted_put oj a oi.dst v h1] at h
  split
  · rename_i hw
    simp only [hw, if_true] at h
    rcases h with h | ⟨hasks, hlets⟩
    case inr => exact .inr ⟨by unfold Oper.asks at *; rw [execOp_put oj hsj a oi.dst v h1] at hasks; exact hasks, hlets⟩
    refine .inl ?_
    unfold Oper.wp at *
    rw [execOp_put oj hsj a oi.dst v h1] at h
    generalize (execOp a.eval oj).run P w = r at *
    cases r with
    | ok n w' =>
      cases n <;> simp only [Oper.upon] at h ⊢
      case value u => exact ⟨keep a hy u, by rw [← Act.put_comm a v u h2]; exact h⟩
      case skip => exact ⟨keep a hy _, by rw [← Act.put_comm a v undef h2]; exact h⟩
      case defer d =>
        refine ⟨keep _ (keepD d) _, ?_⟩
        rw [← Act.put_comm _ v undef h2, ← Act.put_defers]
        exact h
      case enter f args =>
        refine Calls.mono h fun e w'' he => ?_
        cases e with
        | returned u => exact ⟨keep a hy u, by rw [← Act.put_comm a v u h2]; exact he⟩
        | panicked c => exact hQ _ _ _ he
        | outgrown => exact he
      case row row args => exact Rows.mono h fun u w'' he => ⟨keep a hy u, by rw [← Act.put_comm a v u h2]; exact he⟩
    | halt x w' =>
      cases x <;> simp only [Oper.upon] at h ⊢
      case panic u => exact hQ _ _ _ h
  · rename_i hw
    simp only [hw] at h
    exact ⟨keep a hy _, by rw [← Act.put_comm a v undef h2]; exact h⟩

/-- Whatever order is picked among the first n operations, in whatever later world each is carried out: then T. -/
def wpJ (P : Program) (md : Region.Mode) (ops : Array Oper) (Q : Exit → Act → World → Prop) (n : Nat) (T : Array Bool → Act → World → Prop) : Nat → Array Bool → Act → World → Prop
  | 0, listed, a, w => ∀ w1, Ext w w1 → T listed a w1
  | f + 1, listed, a, w => ∀ w1, Ext w w1 → Region.ready md ops listed ≠ [] ∧
      ∀ i ∈ Region.ready md ops listed, i < n ∧ wpOp P ops Q i (fun a' w' => Ext w1 w' ∧ wpJ P md ops Q n T f (listed.setIfInBounds i true) a' w') a w1

theorem wpJ.later {n : Nat} {T : Array Bool → Act → World → Prop} : ∀ {f : Nat} {listed : Array Bool} {a : Act} {w w' : World}, wpJ P md ops Q n T f listed a w → Ext w w' → wpJ P md ops Q n T f listed a w'
  | 0, _, _, _, _, h, k => fun w1 k1 => h w1 (k.trans k1)
  | _ + 1, _, _, _, _, h, k => fun w1 k1 => h w1 (k.trans k1)

theorem wpAny_of_wpJ {n g : Nat} {T : Array Bool → Act → World → Prop} (hT : ∀ listed a w, T listed a w → wpAny P md ops Q g listed a w) :
    ∀ (f : Nat) (listed : Array Bool) (a : Act) (w : World), wpJ P md ops Q n T f listed a w → wpAny P md ops Q (f + g) listed a w
  | 0, listed, a, w, h => by rw [Nat.zero_add]; exact hT _ _ _ (h w (Ext.refl _))
  | f + 1, listed, a, w, h => by
    rw [show f + 1 + g = (f + g) + 1 by omega]
    have h := h w (Ext.refl _)
    exact ⟨fun h0 => absurd h0 h.1, fun i hi => wpOp_mono (fun a' w' h' => wpAny_of_wpJ hT f _ a' w' h'.2) (h.2 i hi).2⟩

theorem wpJ_first {n i : Nat} {oi : Oper} {v : Value} {T : Array Bool → Act → World → Prop} (hi : ops[i]? = some oi) (hsel : ∀ (j : Nat) (o : Oper) cs b, ops[j]? = some o → o.op ≠ .select cs b)
    (hQ : ∀ c a w, Q (.panic c) (a.put oi.dst v) w → Q (.panic c) a w)
    (hs : Region.sinkB md ops n = true ∧ Region.chainB md ops n = true ∧ n < ops.size ∨ n = ops.size) (hin : i < n)
    (hdone : ∀ listed a w, T listed a w → ∀ j ∈ Region.ready md ops listed, n ≤ j) :
    ∀ (f : Nat) (listed : Array Bool) (a : Act) (w : World), HeadInv md ops n listed →
      (∀ j oj, ops[j]? = some oj → j ≠ i → listed.getD j true = false → (∀ e ∈ oj.after, Region.binds md e = true → e.on ≠ i) → oi.apart ops oj = true) →
      i ∈ Region.ready md ops listed → YieldsX P ops w oi v a →
      wpJ P md ops Q n T f (listed.setIfInBounds i true) (a.put oi.dst v) w → wpJ P md ops Q n T (f + 1) listed a w := by
  have hlt : ∀ (listed : Array Bool), HeadInv md ops n listed → i ∈ Region.ready md ops listed → ∀ j ∈ Region.ready md ops listed, j < n := by
    intro listed inv hr j hj
    rcases hs with ⟨hs, hc, hn⟩ | hn
    · rcases Nat.lt_or_ge j n with h | h
      · exact h
      · exact absurd hj (tail_waits hs hc hn inv _ i rfl hin (mem_ready.1 hr).1 j h)
    · obtain ⟨_, oj, hoj, _⟩ := mem_ready.1 hj
      have := (Array.getElem?_eq_some_iff.1 hoj).1
      omega
  intro f
  induction f with
  | zero =>
    intro listed a w inv _ hr hy H w1 k1
    refine ⟨fun h => (by rw [h] at hr; cases hr), fun j hj => ?_⟩
    have hjn := hlt listed inv hr j hj
    refine ⟨hjn, ?_⟩
    by_cases hji : j = i
    · subst hji; exact hy.wpOp hi k1 fun w' k' => ⟨k', H.later (k1.trans k')⟩
    · have := hdone _ _ _ (H w (Ext.refl _)) j (ready_mono hj hji)
      omega
  | succ f ih =>
    intro listed a w inv hfree hr hy H w1 k1
    have hun := (mem_ready.1 hr).1
    refine ⟨fun h => (by rw [h] at hr; cases hr), fun j hj => ?_⟩
    have hjn := hlt listed inv hr j hj
    refine ⟨hjn, ?_⟩
    by_cases hji : j = i
    · subst hji; exact hy.wpOp hi k1 fun w' k' => ⟨k', H.later (k1.trans k')⟩
    · have h1 := ((H w1 k1).2 j (ready_mono hj hji)).2
      obtain ⟨hjun, oj, hoj, hall⟩ := mem_ready.1 hj
      have hnot : ∀ e ∈ oj.after, Region.binds md e = true → e.on ≠ i := fun e he hb heq => by
        have h1 := hall e he hb
        rw [heq, getD_both hun] at h1
        cases h1
      have hfree' : ∀ k ok, ops[k]? = some ok → k ≠ i → (listed.setIfInBounds j true).getD k true = false →
          (∀ e ∈ ok.after, Region.binds md e = true → e.on ≠ i) → oi.apart ops ok = true := fun k ok hk hki hun hno => by
        refine hfree k ok hk hki ?_ hno
        by_cases hjk : j = k
        · subst hjk; exact hjun
        · rw [getD_set_ne true hjk] at hun; exact hun
      have h2 := wpOp_putX hoj (hfree j oj hoj hji hjun hnot) (fun cs b => hsel i oi cs b hi) (fun cs b => hsel j oj cs b hoj) hQ hy h1
      refine wpOp_mono (fun a' w' h3 => ⟨h3.2.1, ih (listed.setIfInBounds j true) a' w' (inv.set hj hjn) hfree' (ready_mono hr (Ne.symm hji)) (h3.1.later (k1.trans h3.2.1)) ?_⟩) h2
      rw [Array.setIfInBounds_comm _ _ hji]
      exact h3.2.2

theorem headInv_start {n : Nat} : HeadInv md ops n (Array.replicate ops.size false) where
  size := by simp
  closed := fun j oj _ hl => by rw [getD_replicate_false] at hl; cases hl
  tail := fun t _ ht => by simp [ht]

/-- The region's operations are n that are taken in the text's order, and a tail that comes up in the text's order behind all of them. -/
def lexB (md : Region.Mode) (ops : Array Oper) (n : Nat) : Bool :=
  Region.noSelect ops && (decide (n = ops.size) || (decide (n < ops.size) && Region.sinkB md ops n && Region.chainB md ops n)) && Region.lexHead md ops (ops.size - n) n 0 (Array.replicate ops.size false)

/-- The first operations, one by one in the text's order: each yields one value, whatever later world it is carried out in. -/
def wpSeq (P : Program) (ops : Array Oper) (W : World) (L : Act → Prop) : List Oper → Act → Prop
  | [], a => L a
  | o :: l, a => ∃ v, YieldsX P ops W o v a ∧ wpSeq P ops W L l (a.put o.dst v)

theorem OkX.val {v : Value} {w : World} : OkX P v w (.ok (.value v) w) := ⟨rfl, Ext.refl _⟩
theorem OkX.call {f : FuncId} {args : Array Value} {v : Value} {w : World} (h : Calls P f args w fun e w' => e = .returned v ∧ Below w.heap.size w w') : OkX P v w (.ok (.enter f args) w) :=
  ⟨Ext.refl _, h⟩
theorem OkX.same {f : FuncId} {args : Array Value} {v : Value} {w : World} (h : Calls P f args w fun e w' => e = .returned v ∧ w = w') : OkX P v w (.ok (.enter f args) w) :=
  ⟨Ext.refl _, h.mono fun _ _ ⟨he, hw⟩ => ⟨he, hw ▸ Ext.refl _⟩⟩
theorem OkX.eq2 {p q : Prop} [Decidable p] [Decidable q] {w : World} : OkX P (.bool (decide p && decide q)) w (if p then if q then .ok (.value (.bool true)) w else .ok (.value (.bool false)) w else .ok (.value (.bool false)) w) := by
  by_cases hp : p <;> by_cases hq : q <;> simp only [hp, hq, if_true, if_false, decide_true, decide_false, Bool.and_true, Bool.and_false, Bool.and_self] <;> exact OkX.val
theorem OkX.ne2 {p q : Prop} [Decidable p] [Decidable q] {w : World} : OkX P (.bool !(decide p && decide q)) w (if p then if q then .ok (.value (.bool false)) w else .ok (.value (.bool true)) w else .ok (.value (.bool true)) w) := by
  by_cases hp : p <;> by_cases hq : q <;> simp only [hp, hq, if_true, if_false, decide_true, decide_false, Bool.and_true, Bool.and_false, Bool.and_self, Bool.not_true, Bool.not_false] <;> exact OkX.val
theorem OkX.eqv {u v : Value} {w : World} {r : Result Next} (h : OkX P u w r) (e : u = v) : OkX P v w r := e ▸ h
theorem seq_take {W : World} {L : Act → Prop} {o : Oper} {l : List Oper} {a : Act} (v : Value) (hw : Region.wanted o (yielded ops a.tmps) = true)
    (h : ∀ w1, Ext W w1 → OkX P v w1 ((execOp a.eval o).run P w1)) (hr : wpSeq P ops W L l (a.put o.dst v)) : wpSeq P ops W L (o :: l) a := ⟨v, .inl ⟨hw, h⟩, hr⟩
theorem seq_skip {W : World} {L : Act → Prop} {o : Oper} {l : List Oper} {a : Act} (hw : Region.wanted o (yielded ops a.tmps) = false)
    (hr : wpSeq P ops W L l (a.put o.dst undef)) : wpSeq P ops W L (o :: l) a := ⟨undef, .inr ⟨hw, rfl⟩, hr⟩
theorem seq_nil {W : World} {L : Act → Prop} {a : Act} (h : L a) : wpSeq P ops W L [] a := h

theorem wpJ_lex {n g : Nat} {W : World} {L : Act → Prop} {T : Array Bool → Act → World → Prop} (hsel : Region.noSelect ops = true)
    (hQ : ∀ c (a : Act) (d : Tmp) v w, Q (.panic c) (a.put (some d) v) w → Q (.panic c) a w)
    (hs : Region.sinkB md ops n = true ∧ Region.chainB md ops n = true ∧ n < ops.size ∨ n = ops.size)
    (hdone : ∀ listed a w, T listed a w → ∀ j ∈ Region.ready md ops listed, n ≤ j)
    (hT : ∀ listed a, Region.seqB md ops g n listed = true → L a → ∀ w1, Ext W w1 → T listed a w1) :
    ∀ (l : List Oper) (k : Nat) (listed : Array Bool) (a : Act), (∀ j, j < l.length → l[j]? = ops[k + j]?) → k + l.length = n → HeadInv md ops n listed →
    Region.lexHead md ops g l.length k listed = true → wpSeq P ops W L l a → wpJ P md ops Q n T l.length listed a W
  | [], k, listed, a, _, hk, _, hB, h => by
    have : k = n := by simpa using hk
    subst this
    exact fun w1 k1 => hT listed a (by simpa [Region.lexHead] using hB) h w1 k1
  | o :: l, k, listed, a, hl, hk, inv, hB, h => by
    have h0 : ops[k]? = some o := by simpa using (hl 0 (by simp)).symm
    simp only [List.length_cons, Region.lexHead, Bool.and_eq_true] at hB
    obtain ⟨⟨hr, hf⟩, hB'⟩ := hB
    have hkn : k < n := by simp only [List.length_cons] at hk; omega
    have hr' : k ∈ Region.ready md ops listed := by simpa using hr
    obtain ⟨v, hy, hK⟩ := h
    exact wpJ_first h0 (Region.noSelect_spec hsel) (fun c a w => by cases hd : o.dst with | none => exact fun h => h | some d => exact hQ c a d v w) hs hkn hdone l.length listed a W inv (Region.free_spec h0 hf) hr' hy
      (wpJ_lex hsel hQ hs hdone hT l (k + 1) _ _ (fun j hj => by have := hl (j + 1) (by simp; omega); simpa [Nat.add_assoc, Nat.add_comm 1 j] using this) (by simp only [List.length_cons] at hk; omega) (inv.set hr' hkn) hB' hK)

/-- **The law.** A region that draws its order: its first n operations yield one value each and lay at most new blocks; the rest follows in the text's order, in whatever later world. -/
theorem wp_region_lex {id : Nat} {a : Act} {w : World} {l : List Oper} (n : Nat) (hm : P.follows .mixedOrders = true) (hB : lexB .any l.toArray n = true)
    (hQ : ∀ c (a : Act) (d : Tmp) v w, Q (.panic c) (a.put (some d) v) w → Q (.panic c) a w)
    (h : wpSeq P l.toArray w (fun a' => ∀ w1, Ext w w1 → wpList P l.toArray Q (l.drop n) a' w1) (l.take n) a) :
    (Code.region id l.toArray true).wp P Q a w := by
  simp only [lexB, Bool.and_eq_true, Bool.or_eq_true, decide_eq_true_eq] at hB
  obtain ⟨⟨hsel, hs⟩, hlex⟩ := hB
  have hs' : Region.sinkB .any l.toArray n = true ∧ Region.chainB .any l.toArray n = true ∧ n < l.toArray.size ∨ n = l.toArray.size := by
    rcases hs with hs | ⟨⟨h1, h2⟩, h3⟩
    · exact .inr hs
    · exact .inl ⟨h2, h3, h1⟩
  have hle : n ≤ l.length := by
    rcases hs' with ⟨_, _, h⟩ | h
    · simp at h; omega
    · simp at h; omega
  refine wp_region_any hm ?_
  have hJ : wpJ P .any l.toArray Q n (fun listed a' w' => Region.seqB .any l.toArray (l.toArray.size - n) n listed = true ∧ wpList P l.toArray Q (l.drop n) a' w') (l.take n).length (Array.replicate l.toArray.size false) a w := by
    refine wpJ_lex (g := l.toArray.size - n) hsel hQ hs' (fun listed a w hT => seqB_ready hT.1) (fun listed a hq hL w1 k1 => ⟨hq, hL w1 k1⟩) (l.take n) 0 _ a ?_ ?_ headInv_start ?_ h
    · intro j hj
      simp only [List.length_take] at hj
      simp [List.getElem?_take]; omega
    · simp; omega
    · simpa [Nat.min_eq_left hle] using hlex
  have hA := wpAny_of_wpJ (g := l.toArray.size - n) (fun listed a' w' hT => ?_) _ _ _ _ (hJ.later (Ext.drew w))
  · have e : (l.take n).length + (l.toArray.size - n) = l.toArray.size := by simp; omega
    rw [e] at hA
    exact hA
  · have hlen : (l.drop n).length = l.toArray.size - n := by simp
    have := wpAny_of_seq (P := P) (ops := l.toArray) (md := .any) (Q' := Q) (l.drop n) n listed a' w' (fun j => by simp [List.getElem?_drop]) (by rw [hlen]; exact hT.1) hT.2
    rw [hlen] at this
    exact this

end

end Go.Proofs.Ytjeeclabnimbbaa

/- append onto a row of the call's own, whatever is appended: what it says, where it lies, what stays. -/
namespace Go.Proofs.Ytjeeclabnimbbaa
open Go.RowKit

/-- What a row says stays: each owned front of it, and each row elsewhere. -/
def Fronts (w w' : World) (v : Value) (n : Nat) : Prop :=
  ∀ (base : Nat) (e : TypeId) (u : Value) (k : Nat) (ys : List Value), w.ownsRow base e 1 u k ys → (u.ownBlock = v.ownBlock → k ≤ n) → w'.ownsRow base e 1 u k ys

theorem own_same {w w' : World} {base : Nat} {e : TypeId} {u : Value} {k : Nat} {ys : List Value} (h : w.ownsRow base e 1 u k ys) (hb : ∀ g, u.ownBlock = some g → w'.heap[g]? = w.heap[g]?) : w'.ownsRow base e 1 u k ys := by
  refine ⟨h.1, ?_⟩
  rcases h.2 with hn | ⟨g, cap, cur, rfl, hbg, hg, hr⟩
  · exact .inl hn
  · exact .inr ⟨g, cap, cur, rfl, hbg, (hb g rfl).trans hg, hr⟩

section
variable {P : Program} (w : World)

theorem run_room_src (t tx ty e : TypeId) (i : TypeInfo) (ht : P.underlying t = some (.slice e)) (hi : P.info? e = some i) (hs1 : i.size = 1)
    (g sLen sCap : Nat) (cur : Array Value) (hg : w.heap[g]? = some (.cells cur e (0, 0))) (x : Value) (n : Nat) (news : List Value) (hs : Src P 1 tx x n news w)
    (hroom : sLen + n ≤ sCap) (hfit : sLen + n ≤ cur.size) :
    (Builtin.append_ #[t, tx] ty #[.slice (some ⟨g, 0, none⟩) sLen sCap, x]).run P w =
      .ok (.slice (some ⟨g, 0, none⟩) (sLen + n) sCap) (w.setRow g (cur.toList.take sLen ++ news ++ cur.toList.drop (sLen + n)).toArray) := by
  have hl := hs.newsLen
  have hst := run_storeCells_at P g sLen e news 0 cur w hg (by omega) hs.one
  have e1 : news.length = n := by omega
  simp only [Nat.add_zero, e1] at hst
  have hc := hs.cells
  rcases hs.kind with ⟨e', hk⟩ | hk <;> simp [Builtin.append_, run_underlying ht, run_underlying hk, sizeOf, typeInfo, hi, hs1, hs.len, hroom, hc, Addr.add_lit, hst]

/-- The law. -/
theorem run_app_src (base : Nat) (t tx ty e : TypeId) (i : TypeInfo) (z : Value) (bytes : Nat) (ht : P.underlying t = some (.slice e)) (hi : P.info? e = some i) (hz : i.zero = some z)
    (hsize : i.size = 1) (hby : i.bytes = bytes) (hzs : z.cells.size = 1)
    (v : Value) (n : Nat) (xs : List Value) (hown : w.ownsRow base e 1 v n xs) (x : Value) (m : Nat) (news : List Value) (hs : Src P 1 tx x m news w)
    (h63 : n + m ≤ maxLen) (hbytes : (n + m) * bytes ≤ 140737488355328) (hbase : base ≤ w.heap.size) :
    ∃ v' w', (Builtin.append_ #[t, tx] ty #[v, x]).run P w = .ok v' w' ∧ w'.ownsRow base e 1 v' (n + m) (xs ++ news) ∧ w.grownBy w' v.ownBlock ∧
      (v'.ownBlock = v.ownBlock ∨ v'.ownBlock = some w.heap.size) ∧ Fronts w w' v n := by
  subst hby
  have hl : news.length = m := by have := hs.newsLen; omega
  have hsmall : n + m ≤ 9223372036854775807 := by simp only [maxLen] at h63; omega
  have hlen : (xs ++ news).length = (n + m) * 1 := by rw [List.length_append, hown.1, hl]; omega
  have grown : ∀ (old : Nat), old < n + m → ∀ (row : Option Nat),
      (w.drew.alloc (.cells ((xs ++ news).toArray ++ Builtin.zeroCells z.cells (grownCap w (n + m) old e - (n + m))) e)).ownsRow base e 1
        (.slice (some ⟨w.heap.size, 0, none⟩) (n + m) (grownCap w (n + m) old e)) (n + m) (xs ++ news) ∧
      w.grownBy (w.drew.alloc (.cells ((xs ++ news).toArray ++ Builtin.zeroCells z.cells (grownCap w (n + m) old e - (n + m))) e)) row ∧
      Fronts w (w.drew.alloc (.cells ((xs ++ news).toArray ++ Builtin.zeroCells z.cells (grownCap w (n + m) old e - (n + m))) e)) v n := by
    intro old ho row
    have hge := grownCap_ge w (n + m) old e
    have hcm : grownCap w (n + m) old e ≤ maxLen := grownCap_le_maxLen w (n + m) old e h63
    refine ⟨⟨hlen, .inr ⟨w.heap.size, _, _, rfl, hbase, heap_alloc_new w.drew _, hge, hcm, ?_, ?_⟩⟩, ⟨rfl, rfl, rfl, by simp, fun k hk _ => heap_alloc_old w.drew _ hk⟩, ?_⟩
    · simp only [Array.size_append, List.size_toArray, size_zeroCells, hzs, hlen]
      omega
    · simp only [Array.toList_append]
      rw [← hlen]
      exact List.take_left
    · intro b' e' u k ys hu _
      exact own_same hu fun g hg => heap_alloc_old w.drew _ (hu.lt g hg).2
  rcases hown.2 with ⟨rfl, rfl⟩ | ⟨g, cap, cur, rfl, hbg, hg, hnc, hcm, hcs, htake⟩
  · have hx : xs = [] := List.eq_nil_of_length_eq_zero (by simpa using hown.1)
    subst hx
    by_cases hm : m = 0
    · subst hm
      have hn : news = [] := List.eq_nil_of_length_eq_zero hl
      subst hn
      refine ⟨.slice none 0 0, w, ?_, World.ownsRow_nil w base e 1, World.grownBy.refl w _, .inl rfl, fun _ _ _ _ _ hu _ => hu⟩
      have hc := hs.cells
      rcases hs.kind with ⟨e', hk⟩ | hk <;> simp [Builtin.append_, run_underlying ht, run_underlying hk, sizeOf, typeInfo, hi, hsize, hs.len, hc]
    · have hr := run_append_grow_src (P := P) w t tx ty e i z ht hi hz none 0 0 [] (by simpa using run_firstCells_none w.drew i.size 0 0 0) x m news (by rw [hsize]; exact hs) (by omega) (by omega) (by
        have hb := hbytes; rw [Nat.zero_add] at hb ⊢; rw [nextslicecap_zero (by omega)]; omega)
      have hgr := grown 0 (by omega) (Value.ownBlock (.slice none 0 0))
      exact ⟨_, _, hr, hgr.1, hgr.2.1, .inr rfl, hgr.2.2⟩
  · by_cases hroom : n + m ≤ cap
    · have hfit : n + m ≤ cur.size := by omega
      have hr := run_room_src (P := P) w t tx ty e i ht hi hsize g n cap cur hg x m news hs hroom hfit
      have e1 : n * 1 = n := by omega
      rw [e1] at htake
      refine ⟨_, _, hr, ⟨hlen, .inr ⟨g, cap, _, rfl, hbg, setRow_heap w g cur _ e _ hg, hroom, hcm, ?_, ?_⟩⟩, ⟨rfl, rfl, rfl, by simp, fun k _ hk => setRow_other w g k _ (fun e => hk (by simp [Value.ownBlock, e]))⟩, .inl rfl, ?_⟩
      · simp only [List.size_toArray, List.length_append, List.length_take, List.length_drop, Array.length_toList]
        omega
      · rw [htake, ← hlen]
        exact List.take_left
      · intro b' e' u k ys hu hk
        by_cases hug : u.ownBlock = some g
        · have hkn : k ≤ n := hk hug
          refine ⟨hu.1, ?_⟩
          rcases hu.2 with h0 | ⟨g', cap', cur', rfl, hb', hg', hk', hm', hcs', ht'⟩
          · exact .inl h0
          · have : g' = g := by simpa [Value.ownBlock] using hug
            subst this
            rw [hg] at hg'
            injection hg' with hg'
            injection hg' with h1 h2
            subst h1 h2
            refine .inr ⟨g', cap', _, rfl, hb', setRow_heap w g' cur _ e _ hg, hk', hm', ?_, ?_⟩
            · simp only [List.size_toArray, List.length_append, List.length_take, List.length_drop, Array.length_toList]
              omega
            · rw [← ht']
              simp only [Nat.mul_one]
              rw [List.append_assoc, List.take_append_of_le_length (by simp; omega), List.take_take, Nat.min_eq_left hkn]
        · exact own_same hu fun g' hg' => setRow_other w g g' _ (fun e => hug (by rw [hg', e]))
    · have holds : ∀ j u, xs[j]? = some u → w.cell? ((⟨g, 0, none⟩ : Addr).add j) = some u := hown.cells (g := g) rfl
      have hr := run_append_grow_src (P := P) w t tx ty e i z ht hi hz (some ⟨g, 0, none⟩) n cap xs (run_firstCells_some w.drew i.size n ⟨g, 0, none⟩ n cap xs (by rw [hsize]; exact hown.1) (by simpa using holds)) x m news (by rw [hsize]; exact hs) (by omega) (by omega) (growslice_fits (by omega) hbytes)
      have hgr := grown cap (by omega) (Value.ownBlock (.slice (some ⟨g, 0, none⟩) n cap))
      exact ⟨_, _, hr, hgr.1, hgr.2.1, .inr rfl, hgr.2.2⟩

theorem wp_app_src {o : Oper} {a : Act} {K : Act → World → Prop} {Q : Exit → Act → World → Prop} (s y : Operand) (t tx : TypeId)
    (ho : o.op = .call { callee := .builtin .append, args := #[s, y], argTypes := #[t, tx] })
    (base : Nat) (e : TypeId) (i : TypeInfo) (z : Value) (bytes : Nat) (ht : P.underlying t = some (.slice e)) (hi : P.info? e = some i) (hz : i.zero = some z)
    (hsize : i.size = 1) (hby : i.bytes = bytes) (hzs : z.cells.size = 1)
    (v : Value) (n : Nat) (xs : List Value) (hs : a.eval s = v) (hown : w.ownsRow base e 1 v n xs) (x : Value) (m : Nat) (news : List Value) (hx : a.eval y = x) (hr : Src P 1 tx x m news w)
    (h63 : n + m ≤ maxLen) (hbytes : (n + m) * bytes ≤ 140737488355328) (hbase : base ≤ w.heap.size)
    (h : ∀ v' w', w'.ownsRow base e 1 v' (n + m) (xs ++ news) → w.grownBy w' v.ownBlock → (v'.ownBlock = v.ownBlock ∨ v'.ownBlock = some w.heap.size) → Fronts w w' v n → K (a.put o.dst v') w') : o.wp P a w K Q := by
  obtain ⟨v', w', hrun, h2, h3, h4, h5⟩ := run_app_src (P := P) w base t tx o.type e i z bytes ht hi hz hsize hby hzs v n xs hown x m news hr h63 hbytes hbase
  unfold Oper.wp execOp
  simp only [ho, resolve, invoke, builtin, Sem.run_bind, Sem.run_pure, Result.andThen_ok, List.map_toArray, List.map_cons, List.map_nil, hs, hx, hrun]
  exact h v' w' h2 h3 h4 h5

theorem wpList_app_src {ops : Array Oper} {rest : List Oper} {o : Oper} {a : Act} {Q : Exit → Act → World → Prop} (hgd : o.guard = none) (s y : Operand) (t tx : TypeId)
    (ho : o.op = .call { callee := .builtin .append, args := #[s, y], argTypes := #[t, tx] })
    (base : Nat) (e : TypeId) (i : TypeInfo) (z : Value) (bytes : Nat) (ht : P.underlying t = some (.slice e)) (hi : P.info? e = some i) (hz : i.zero = some z)
    (hsize : i.size = 1) (hby : i.bytes = bytes) (hzs : z.cells.size = 1)
    (v : Value) (n : Nat) (xs : List Value) (hs : a.eval s = v) (hown : w.ownsRow base e 1 v n xs) (x : Value) (m : Nat) (news : List Value) (hx : a.eval y = x) (hr : Src P 1 tx x m news w)
    (h63 : n + m ≤ maxLen) (hbytes : (n + m) * bytes ≤ 140737488355328) (hbase : base ≤ w.heap.size)
    (h : ∀ v' w', w'.ownsRow base e 1 v' (n + m) (xs ++ news) → w.grownBy w' v.ownBlock → (v'.ownBlock = v.ownBlock ∨ v'.ownBlock = some w.heap.size) → Fronts w w' v n → wpList P ops Q rest (a.put o.dst v') w') :
    wpList P ops Q (o :: rest) a w :=
  wpList_plain hgd fun _ hK => wp_app_src w s y t tx ho base e i z bytes ht hi hz hsize hby hzs v n xs hs hown x m news hx hr h63 hbytes hbase fun v' w' h2 h3 h4 h5 => hK _ _ (h v' w' h2 h3 h4 h5)

end

end Go.Proofs.Ytjeeclabnimbbaa

/- Bytes as values, numbers as bytes, slices that read as lists: plain facts. -/
namespace Go.Proofs.Ytjeeclabnimbbaa
open Go.RowKit

/-- A byte as a value. -/
def bv (c : UInt8) : Value := .int .u8 (c.toNat : Int)
def bvs (l : List UInt8) : List Value := l.map bv
theorem bvs_length (l : List UInt8) : (bvs l).length = l.length := by simp [bvs]
theorem bvs_append (l m : List UInt8) : bvs (l ++ m) = bvs l ++ bvs m := by simp [bvs]
theorem bvs_one {l : List UInt8} : ∀ u ∈ bvs l, u.oneCell' = true := by
  intro u hu; simp only [bvs, List.mem_map] at hu; obtain ⟨c, _, rfl⟩ := hu; rfl

/-- The lowest s bytes of N, the highest of them first. -/
def be (N : Nat) : Nat → List UInt8
  | 0 => []
  | s + 1 => UInt8.ofNat (N / 256 ^ s) :: be N s
theorem be_length (N : Nat) : ∀ s, (be N s).length = s
  | 0 => rfl
  | s + 1 => by simp [be, be_length N s]

/-- The number that bytes say. -/
def va (l : List UInt8) : Nat := l.foldl (fun n c => n * 256 + c.toNat) 0

theorem va_from (l : List UInt8) : ∀ n : Nat, l.foldl (fun n c => n * 256 + c.toNat) n = n * 256 ^ l.length + va l := by
  induction l with
  | nil => intro n; simp [va]
  | cons c l ih =>
    intro n
    simp only [va, List.foldl_cons, List.length_cons]
    rw [ih, ih]
    rw [Nat.pow_succ]
    grind
theorem va_lt (l : List UInt8) : va l < 256 ^ l.length := by
  induction l with
  | nil => simp [va]
  | cons c l ih =>
    have h := va_from l c.toNat
    have hc := c.toNat_lt
    simp only [va, List.foldl_cons, Nat.zero_mul, Nat.zero_add, List.length_cons] at h ih ⊢
    rw [h]
    have : c.toNat * 256 ^ l.length + 256 ^ l.length ≤ 256 ^ (l.length + 1) := by
      rw [Nat.pow_succ, ← Nat.succ_mul, Nat.mul_comm (256 ^ l.length)]
      exact Nat.mul_le_mul_right _ (by omega)
    omega
theorem va_snoc (l : List UInt8) (c : UInt8) : va (l ++ [c]) = va l * 256 + c.toNat := by simp [va]
theorem va_be (N : Nat) : ∀ s, va (be N s) = N % 256 ^ s
  | 0 => by simp [be, va, Nat.mod_one]
  | s + 1 => by
    have h := va_from (be N s) (UInt8.ofNat (N / 256 ^ s)).toNat
    simp only [be, va, List.foldl_cons, Nat.zero_mul, Nat.zero_add] at h ⊢
    rw [h, be_length]
    have hb := va_be N s
    simp only [va] at hb
    rw [hb]
    have hc : (UInt8.ofNat (N / 256 ^ s)).toNat = N / 256 ^ s % 256 := by simp [UInt8.toNat_ofNat']
    rw [hc, Nat.pow_succ, Nat.mod_mul]
    grind

/-- In world w the slice value v reads as xs (one cell each). -/
def Rd (w : World) (v : Value) (xs : List Value) : Prop :=
  ∃ A c, v = .slice A xs.length c ∧ xs.length ≤ c ∧ c ≤ maxLen ∧ (0 < xs.length → ∃ a, A = some a ∧ a.block < w.heap.size ∧ ∀ j u, xs[j]? = some u → w.cell? (a.add j) = some u)

theorem add_block (a : Addr) (n : Nat) : (a.add n).block = a.block := by unfold Addr.add; split <;> rfl
theorem add_add' (a : Addr) (i j : Nat) : (a.add i).add j = a.add (i + j) := by
  unfold Addr.add
  by_cases hi : i = 0 <;> by_cases hj : j = 0 <;> simp [hi, hj, Nat.add_assoc]

theorem Rd.ext {w w' : World} {v : Value} {xs : List Value} (h : Rd w v xs) (k : Ext w w') : Rd w' v xs := by
  obtain ⟨A, c, rfl, h1, h2, h3⟩ := h
  refine ⟨A, c, rfl, h1, h2, fun hn => ?_⟩
  obtain ⟨a, rfl, hb, hc⟩ := h3 hn
  exact ⟨a, rfl, Nat.lt_of_lt_of_le hb k.size, fun j u hu => (Below.cell k (p := a.add j) (by rw [add_block]; exact hb)).trans (hc j u hu)⟩
theorem Rd.nil (w : World) : Rd w (.slice none 0 0) [] := ⟨none, 0, rfl, Nat.le_refl _, by simp [maxLen], fun h => absurd h (by simp)⟩
theorem Rd.grown {w w' : World} {row : Option Nat} {v : Value} {xs : List Value} (h : Rd w v xs) (k : w.grownBy w' row) (hr : ∀ g, row = some g → v.ownBlock ≠ some g) : Rd w' v xs := by
  obtain ⟨A, c, rfl, h1, h2, h3⟩ := h
  refine ⟨A, c, rfl, h1, h2, fun hn => ?_⟩
  obtain ⟨a, rfl, hb, hc⟩ := h3 hn
  refine ⟨a, rfl, Nat.lt_of_lt_of_le hb k.size, fun j u hu => ?_⟩
  rw [World.cell?_of_block (k.block (a.add j).block (by rw [add_block]; exact hb) (fun e => hr _ e.symm (by rw [add_block]; rfl)))]
  exact hc j u hu
theorem Rd.of_own {w : World} {base : Nat} {e : TypeId} {v : Value} {n : Nat} {xs : List Value} (h : w.ownsRow base e 1 v n xs) : Rd w v xs := by
  have hl : xs.length = n := by have := h.1; omega
  rcases h.2 with ⟨rfl, h0⟩ | ⟨g, cap, cur, rfl, _, hg, hc, hm, _⟩
  · exact ⟨none, 0, by rw [hl, h0], by omega, by simp [maxLen], fun hn => by omega⟩
  · exact ⟨_, cap, by rw [hl], by omega, hm, fun hn => ⟨⟨g, 0, none⟩, rfl, (Array.getElem?_eq_some_iff.1 hg).1, h.cells (g := g) rfl⟩⟩
theorem Rd.len {w : World} {v : Value} {xs : List Value} (h : Rd w v xs) : ∃ A c, v = .slice A xs.length c ∧ xs.length ≤ c ∧ c ≤ maxLen := by
  obtain ⟨A, c, h, h1, h2, _⟩ := h; exact ⟨A, c, h, h1, h2⟩

/-- What a row that is owned looks like, whatever the world's other blocks. -/
theorem own_Ext {w w' : World} {base : Nat} {e : TypeId} {v : Value} {n : Nat} {xs : List Value} (h : w.ownsRow base e 1 v n xs) (k : Ext w w') : w'.ownsRow base e 1 v n xs := by
  refine ⟨h.1, ?_⟩
  rcases h.2 with hn | ⟨g, cap, cur, rfl, hb, hg, hr⟩
  · exact .inl hn
  · exact .inr ⟨g, cap, cur, rfl, hb, (k.block g (Array.getElem?_eq_some_iff.1 hg).1).trans hg, hr⟩

/-- A chain of appends: the first row, or blocks that are new. -/
theorem grow_chain {w wr w' : World} {r r1 : Option Nat} (h : w.grownBy wr r) (hr : r1 = r ∨ ∀ k, r1 = some k → w.heap.size ≤ k) (k : wr.grownBy w' r1) : w.grownBy w' r :=
  ⟨k.os.trans h.os, k.tape.trans h.tape, k.output.trans h.output, Nat.le_trans h.size k.size, fun i hi hne => by
    rw [k.block i (Nat.lt_of_lt_of_le hi h.size) (fun e => by
      rcases hr with hr | hr
      · exact hne (e.trans hr)
      · have := hr i e.symm; omega), h.block i hi hne]⟩
theorem Ext.trans' {w a b : World} (h : Ext w a) (k : Below w.heap.size a b) : Ext w b := Below.trans h k
theorem grown_ext {w w' : World} (h : w.grownBy w' none) : Ext w w' := ⟨h.os, h.tape, h.output, h.size, fun k hk => h.block k hk (by simp)⟩
theorem grown_below {w w' : World} {r : Option Nat} (h : w.grownBy w' r) {B : Nat} (hB : B ≤ w.heap.size) (hr : ∀ k, r = some k → B ≤ k) : Below B w w' :=
  ⟨h.os, h.tape, h.output, h.size, fun k hk => h.block k (by omega) (fun e => by have := hr k e.symm; omega)⟩
theorem grown_of_ext {w w' : World} (h : Ext w w') (r : Option Nat) : w.grownBy w' r := ⟨h.os, h.tape, h.output, h.size, fun k hk _ => h.block k hk⟩

theorem Fronts.ext {w w' : World} (h : Ext w w') (v : Value) (n : Nat) : Fronts w w' v n := fun _ _ _ _ _ hu _ => own_Ext hu h
theorem Fronts.trans {w wr w' : World} {v v1 : Value} {n n1 : Nat} (h1 : Fronts w wr v n) (hv : v1.ownBlock = v.ownBlock ∨ ∀ k, v1.ownBlock = some k → w.heap.size ≤ k) (hn : n ≤ n1) (h2 : Fronts wr w' v1 n1) : Fronts w w' v n := by
  intro base e u k ys hu hk
  refine h2 base e u k ys (h1 base e u k ys hu hk) (fun he => ?_)
  rcases hv with hv | hv
  · exact Nat.le_trans (hk (he.trans hv)) hn
  · cases hb : u.ownBlock with
    | none =>
      rcases hu.2 with ⟨_, h0⟩ | ⟨g, cap, cur, rfl, _⟩
      · omega
      · simp [Value.ownBlock] at hb
    | some g =>
      have h3 := (hu.lt g hb).2
      have h4 := hv g (he ▸ hb)
      omega

theorem Rd.src {P : Program} {w : World} {x : Value} {news : List Value} (h : Rd w x news) (h1 : ∀ u ∈ news, u.oneCell' = true) {tx e' : TypeId} (hk : P.underlying tx = some (.slice e')) : Src P 1 tx x news.length news w := by
  obtain ⟨A, c, rfl, hc1, hc2, hcell⟩ := h
  by_cases h0 : news.length = 0
  · have hn : news = [] := List.eq_nil_of_length_eq_zero h0
    subst hn
    cases A with
    | some a => exact Src.ofSlice w hk a 0 c [] rfl (by simp) h1
    | none => exact Src.ofNil w hk c
  · obtain ⟨a, rfl, _, hcs⟩ := hcell (by omega)
    exact Src.ofSlice w hk a news.length c news (by simp) hcs h1

/-- The one cell of a new block. -/
theorem Rd.one (w : World) (x : Value) (t : TypeId) (n c : Nat) (hn : n = 1) (hc : c = 1) : Rd (w.alloc (.cells #[x] t)) (.slice (some ⟨w.heap.size, 0, none⟩) n c) [x] := by
  subst hn hc
  exact ⟨_, _, rfl, Nat.le_refl _, by simp [maxLen], fun _ => ⟨_, rfl, by simp, cell_one_new w x t⟩⟩

end Go.Proofs.Ytjeeclabnimbbaa

/- Remainders; a world under a name. -/
namespace Go.Proofs.Ytjeeclabnimbbaa
open Go.RowKit

theorem at_world {P : Program} {code : Code} {Q : Exit → Act → World → Prop} {a : Act} {w : World} (h : ∀ W0, W0 = w → code.wp P Q a W0) : code.wp P Q a w := h w rfl

theorem emod_neg {a n : Int} (hn : 0 < n) (h : a.tmod n < 0) : a % n = a.tmod n + n := by
  have h2 := @Int.tmod_eq_emod a n
  have h0 : ¬ 0 ≤ a := fun h0 => by have := Int.tmod_nonneg n h0; omega
  rw [h2]; rw [h2] at h
  split at h
  · have := Int.emod_nonneg a (show n ≠ 0 by omega); omega
  · rw [if_neg (by assumption)]; omega
theorem emod_pos {a n : Int} (hn : 0 < n) (h : ¬ a.tmod n < 0) : a % n = a.tmod n := by
  have h2 := @Int.tmod_eq_emod a n
  rw [h2]; rw [h2] at h
  split at h
  · rw [if_pos (by assumption)]; omega
  · have := Int.emod_lt_of_pos a hn; omega
end Go.Proofs.Ytjeeclabnimbbaa

/- Slice expressions of a value that reads as a list: one run equation each, the address under one name. -/
namespace Go.Proofs.Ytjeeclabnimbbaa
open Go.RowKit

theorem Ext.cell' {a b : World} (h : Ext a b) {p : Addr} {v : Value} (hc : a.cell? p = some v) : b.cell? p = some v := by
  rw [Below.cell h (p := p) (World.block_lt_of_cell? a _ hc)]; exact hc

/-- The address of what stands behind the first l of a slice of capacity c. -/
def subA (A : Option Addr) (l c : Nat) : Option Addr := if c = l then A else A.map (·.add l)

section
variable {P : Program} {T e : TypeId} {A : Option Addr} {n c : Nat}

theorem size_elem {i : TypeInfo} (hT : P.underlying T = some (.slice e)) (hi : P.info? e = some i) (h1 : i.size = 1) (w : World) : P.elem T = e ∧ (sizeOf (P.elem T)).run P w = .ok 1 w := by
  have he : P.elem T = e := by unfold Program.elem; simp [hT]
  refine ⟨he, ?_⟩
  rw [he]
  simp [sizeOf, typeInfo, hi, h1]

theorem sl_lh {i : TypeInfo} (hT : P.underlying T = some (.slice e)) (hi : P.info? e = some i) (h1 : i.size = 1) {l h : Nat} (hl : l ≤ h) (hh : h ≤ c) (w : World) (kl kh : IntKind) :
    (Instr.slice T (.slice A n c) (some (.int kl (l : Int))) (some (.int kh (h : Int))) none).run P w = .ok (.slice (subA A l c) (h - l) (c - l)) w := by
  obtain ⟨he, hs⟩ := size_elem hT hi h1 w
  rw [run_slice_lh w T A n c (by rw [he]; exact hT) kl kh l h (by omega) (by omega) (by omega), hs]
  simp [Result.andThen, sliced, subA]
theorem sl_h {i : TypeInfo} (hT : P.underlying T = some (.slice e)) (hi : P.info? e = some i) (h1 : i.size = 1) {h : Nat} (hh : h ≤ c) (w : World) (kh : IntKind) :
    (Instr.slice T (.slice A n c) none (some (.int kh (h : Int))) none).run P w = .ok (.slice (subA A 0 c) h c) w := by
  obtain ⟨he, hs⟩ := size_elem hT hi h1 w
  rw [run_slice_h w T A n c (by rw [he]; exact hT) kh h (by omega) (by omega), hs]
  simp [Result.andThen, sliced, subA]
theorem sl_l {i : TypeInfo} (hT : P.underlying T = some (.slice e)) (hi : P.info? e = some i) (h1 : i.size = 1) {l : Nat} (hl : l ≤ n) (w : World) (kl : IntKind) :
    (Instr.slice T (.slice A n c) (some (.int kl (l : Int))) none none).run P w = .ok (.slice (subA A l c) (n - l) (c - l)) w := by
  obtain ⟨he, hs⟩ := size_elem hT hi h1 w
  rw [run_slice_l w T A n c (by rw [he]; exact hT) kl l (by omega) (by omega), hs]
  simp [Result.andThen, sliced, subA]
end

theorem subA_block {A : Option Addr} {l c n n' c' c'' : Nat} : (Value.slice (subA A l c) n c').ownBlock = (Value.slice A n' c'').ownBlock := by
  unfold subA
  split
  · cases A <;> rfl
  · cases A with
    | none => rfl
    | some a => simp [Value.ownBlock, add_block]

theorem Rd.sub {w : World} {A : Option Addr} {n c l k : Nat} {xs : List Value} (h : Rd w (.slice A n c) xs) (hk : l + k ≤ n) : Rd w (.slice (subA A l c) k (c - l)) ((xs.drop l).take k) := by
  obtain ⟨A', c', e, h1, h2, h3⟩ := h
  injection e with e1 e2 e3
  subst e1 e3
  have hlen : ((xs.drop l).take k).length = k := by simp; omega
  refine ⟨subA A l c, c - l, by rw [hlen], by rw [hlen]; omega, by omega, fun hn => ?_⟩
  rw [hlen] at hn
  obtain ⟨a', e, hb, hc⟩ := h3 (by omega)
  subst e
  refine ⟨a'.add l, ?_, by rw [add_block]; exact hb, fun j u hu => ?_⟩
  · unfold subA; rw [if_neg (by omega)]; rfl
  · rw [add_add']
    refine hc _ u ?_
    rw [List.getElem?_take] at hu
    split at hu
    · rw [List.getElem?_drop] at hu; exact hu
    · cases hu
theorem Rd.sub0 {w : World} {A : Option Addr} {n c k : Nat} {xs : List Value} (h : Rd w (.slice A n c) xs) (hk : k ≤ n) : Rd w (.slice (subA A 0 c) k c) (xs.take k) := by
  have := h.sub (l := 0) (k := k) (by omega)
  simpa using this
theorem Rd.subl {w : World} {A : Option Addr} {n c l : Nat} {xs : List Value} (h : Rd w (.slice A n c) xs) (hl : l ≤ n) : Rd w (.slice (subA A l c) (n - l) (c - l)) (xs.drop l) := by
  have h0 := h.sub (l := l) (k := n - l) (by omega)
  obtain ⟨A', c', e, _⟩ := h
  injection e with _ e2 _
  rwa [List.take_of_length_le (by simp; omega)] at h0

/-- A slice of bytes, its length under a name of its own. -/
theorem Rd.open {w : World} {v : Value} {l : List UInt8} (h : Rd w v (bvs l)) : ∃ A N c, v = .slice A N c ∧ N = l.length ∧ N ≤ c ∧ c ≤ 9223372036854775807 ∧
    (0 < N → ∃ a, A = some a ∧ a.block < w.heap.size ∧ ∀ k (hk : k < l.length), w.cell? (a.add k) = some (.int .u8 (l[k].toNat : Int))) := by
  obtain ⟨A, c, rfl, h1, h2, h3⟩ := h
  rw [bvs_length] at *
  unfold maxLen at h2
  refine ⟨A, _, c, rfl, rfl, h1, by omega, fun hn => ?_⟩
  obtain ⟨a, rfl, hb, hc⟩ := h3 hn
  exact ⟨a, rfl, hb, fun k hk => hc k (bv l[k]) (by simp [bvs, hk])⟩

theorem ints_open {w : World} {v : Value} {l : List Int} (h : Rd w v (l.map (Value.int .i64))) : ∃ A N c, v = .slice A N c ∧ N = l.length ∧ N ≤ c ∧ c ≤ 9223372036854775807 ∧
    (0 < N → ∃ a, A = some a ∧ a.block < w.heap.size ∧ ∀ k (hk : k < l.length), w.cell? (a.add k) = some (.int .i64 l[k])) := by
  obtain ⟨A, c, rfl, h1, h2, h3⟩ := h
  rw [List.length_map] at *
  unfold maxLen at h2
  refine ⟨A, _, c, rfl, rfl, h1, by omega, fun hn => ?_⟩
  obtain ⟨a, rfl, hb, hc⟩ := h3 hn
  exact ⟨a, rfl, hb, fun k hk => hc k (.int .i64 l[k]) (by simp [hk])⟩

end Go.Proofs.Ytjeeclabnimbbaa

/- Arguments that are slices of numbers, as lists. -/
namespace Go.Proofs.Ytjeeclabnimbbaa
open Go.ChangeShapes Go.WideShapes Go.ChangeAt Go.RowKit

section
variable {H : Type} {enc : TypeId × Value → H} {P : Program} {w : World} {base : Nat} {spare : Nat → Bool} {held : Bool} {r : Reach} {b0 : Nat}

theorem open_rd {t e : TypeId} {k : IntKind} {v : Value} {d : DataW H} {ps : List MemPlace} (ht : P.underlying t = some (.slice e)) (he : P.underlying e = some (.int k)) (hc : P.cellsOf e = 1)
    (hv : Value.okWide P w r b0 t v) (h : DataW.Trod enc P w base spare held t v d ps) : ∃ zs : List Int, Rd w v (zs.map (Value.int k)) ∧ ∀ z ∈ zs, (Lit.int k z).wf = true := by
  obtain ⟨a0, len0, cap0, rfl⟩ := okWide_slice ht hv
  obtain ⟨fuel, hf⟩ := h
  simp only [Value.cells] at hf
  rcases open_ints ht he hc hf with ⟨h0, _⟩ | ⟨a, len, cap, zs, h0, _, hl, hm, hz, _, hcell, hwf⟩
  · have h0 : a0 = none ∧ len0 = 0 ∧ cap0 = 0 := by simpa using h0
    obtain ⟨rfl, rfl, rfl⟩ := h0
    exact ⟨[], Rd.nil w, by simp⟩
  · have h0 : a0 = some a ∧ len0 = len ∧ cap0 = cap := by simpa using h0
    obtain ⟨rfl, rfl, rfl⟩ := h0
    have hlz : len0 ≤ zs.length := by rw [hz]; split <;> omega
    have hlen : (zs.take len0).length = len0 := by simp; omega
    refine ⟨zs.take len0, ⟨some a, cap0, by rw [List.length_map, hlen], by rw [List.length_map, hlen]; exact hl, hm, fun hn => ⟨a, rfl, ?_, fun j u hu => ?_⟩⟩, fun z hz' => hwf z (List.mem_of_mem_take hz')⟩
    · rw [List.length_map, hlen] at hn
      have h1 := hcell 0 (by omega)
      have := World.block_lt_of_cell? w _ h1
      rwa [add_block] at this
    · have hj : j < len0 := by
        have := (List.getElem?_eq_some_iff.1 hu).1
        rw [List.length_map, hlen] at this
        exact this
      rw [hcell j (by omega), ← hu]
      simp only [List.getElem?_map, List.getElem?_take, hj, if_true, List.getD, List.getElem?_eq_getElem (show j < zs.length by omega), Option.map_some, Option.getD_some]

theorem bytes_of : ∀ (zs : List Int), (∀ z ∈ zs, (Lit.int .u8 z).wf = true) → ∃ l : List UInt8, zs.map (Value.int .u8) = bvs l
  | [], _ => ⟨[], rfl⟩
  | z :: zs, h => by
    obtain ⟨l, hl⟩ := bytes_of zs (fun x hx => h x (List.mem_cons_of_mem _ hx))
    have hz : IntKind.u8.min ≤ z ∧ z ≤ IntKind.u8.max := by
      have := h z List.mem_cons_self
      simpa [Lit.wf] using this
    have h1 : IntKind.u8.min = 0 := rfl
    have h2 : IntKind.u8.max = 255 := rfl
    refine ⟨UInt8.ofNat z.toNat :: l, ?_⟩
    simp only [List.map_cons, bvs] at hl ⊢
    rw [hl]
    congr 1
    simp only [bv, UInt8.toNat_ofNat']
    congr 1
    omega

theorem open_bytes {t e : TypeId} {v : Value} {d : DataW H} {ps : List MemPlace} (ht : P.underlying t = some (.slice e)) (he : P.underlying e = some (.int .u8)) (hc : P.cellsOf e = 1)
    (hv : Value.okWide P w r b0 t v) (h : DataW.Trod enc P w base spare held t v d ps) : ∃ l : List UInt8, Rd w v (bvs l) := by
  obtain ⟨zs, h1, h2⟩ := open_rd ht he hc hv h
  obtain ⟨l, hl⟩ := bytes_of zs h2
  exact ⟨l, hl ▸ h1⟩

end

end Go.Proofs.Ytjeeclabnimbbaa

/- Arguments that are slices of slices of numbers, or of strings, as lists. -/
namespace Go.Proofs.Ytjeeclabnimbbaa
open Go.ChangeShapes Go.WideShapes Go.ChangeAt Go.RowKit Go.Deep

section
variable {H : Type} {enc : TypeId × Value → H} {P : Program} {w : World} {base : Nat} {spare : Nat → Bool} {held : Bool} {r : Reach} {b0 : Nat}

theorem rd_of_fn {a : Addr} {len cap m : Nat} {V : Nat → Value} (hl : len ≤ cap) (hm : cap ≤ maxLen) (hlm : len ≤ m) (hV : ∀ i, i < m → w.cell? (a.add i) = some (V i)) :
    Rd w (.slice (some a) len cap) ((List.range len).map V) := by
  refine ⟨some a, cap, by simp, by simpa using hl, hm, fun hn => ⟨a, rfl, ?_, fun j u hu => ?_⟩⟩
  · have := World.block_lt_of_cell? w _ (hV 0 (by simp at hn; omega))
    rwa [add_block] at this
  · have hj : j < len := by
      have := (List.getElem?_eq_some_iff.1 hu).1
      simpa using this
    rw [hV j (by omega), ← hu]
    simp [hj]

/-- A slice of numbers, by its own reading. -/
theorem open_rdF {t e : TypeId} {k : IntKind} {fuel : Nat} {v : Value} {x : DataW H × List MemPlace} (ht : P.underlying t = some (.slice e)) (he : P.underlying e = some (.int k)) (hc : P.cellsOf e = 1)
    (hf : DataW.trod enc P w base spare held fuel t [v] = some x) : ∃ zs : List Int, Rd w v (zs.map (Value.int k)) ∧ ∀ z ∈ zs, (Lit.int k z).wf = true := by
  rcases open_ints ht he hc hf with ⟨h0, _⟩ | ⟨a, len, cap, zs, h0, _, hl, hm, hz, _, hcell, hwf⟩
  · have h0 : v = .slice none 0 0 := by simpa using h0
    subst h0
    exact ⟨[], Rd.nil w, by simp⟩
  · have h0 : v = .slice (some a) len cap := by simpa using h0
    subst h0
    have hlz : len ≤ zs.length := by rw [hz]; split <;> omega
    refine ⟨zs.take len, ?_, fun z hz' => hwf z (List.mem_of_mem_take hz')⟩
    have h := rd_of_fn hl hm hlz hcell
    have e : (List.range len).map (fun i => Value.int k (zs.getD i 0)) = (zs.take len).map (Value.int k) := by
      apply List.ext_getElem?
      intro i
      by_cases hi : i < len
      · simp [hi, List.getD, List.getElem?_eq_getElem (show i < zs.length by omega), List.getElem?_take]
      · simp [hi, List.getElem?_take]
    rw [← e]
    exact h

/-- Slices of numbers, one by one. -/
theorem open_rows {t e q : TypeId} {k : IntKind} {v : Value} {d : DataW H} {ps : List MemPlace} (ht : P.underlying t = some (.slice e)) (he : P.underlying e = some (.slice q)) (hq : P.underlying q = some (.int k)) (ce : P.cellsOf e = 1) (cq : P.cellsOf q = 1)
    (hv : Value.okWide P w r b0 t v) (h : DataW.Trod enc P w base spare held t v d ps) : ∃ rows : List Value, Rd w v rows ∧ ∀ u ∈ rows, ∃ zs : List Int, Rd w u (zs.map (Value.int k)) ∧ ∀ z ∈ zs, (Lit.int k z).wf = true := by
  obtain ⟨a0, len0, cap0, rfl⟩ := okWide_slice ht hv
  obtain ⟨fuel, hf⟩ := h
  simp only [Value.cells] at hf
  rcases open_slice1 ht ce hf with ⟨h0, _⟩ | ⟨a, len, cap, m, n, V, D, Pl, h0, _, hl, hm, hmm, _, hx⟩
  · have h0 : a0 = none ∧ len0 = 0 ∧ cap0 = 0 := by simpa using h0
    obtain ⟨rfl, rfl, rfl⟩ := h0
    exact ⟨[], Rd.nil w, by simp⟩
  · have h0 : a0 = some a ∧ len0 = len ∧ cap0 = cap := by simpa using h0
    obtain ⟨rfl, rfl, rfl⟩ := h0
    have hlm : len0 ≤ m := by rw [hmm]; split <;> omega
    refine ⟨_, rd_of_fn hl hm hlm (fun i hi => (hx i hi).1), fun u hu => ?_⟩
    simp only [List.mem_map, List.mem_range] at hu
    obtain ⟨i, hi, rfl⟩ := hu
    exact open_rdF he hq cq (hx i (by omega)).2

/-- Rows of bytes. -/
theorem open_brows {t e q : TypeId} {v : Value} {d : DataW H} {ps : List MemPlace} (ht : P.underlying t = some (.slice e)) (he : P.underlying e = some (.slice q)) (hq : P.underlying q = some (.int .u8)) (ce : P.cellsOf e = 1) (cq : P.cellsOf q = 1)
    (hv : Value.okWide P w r b0 t v) (h : DataW.Trod enc P w base spare held t v d ps) : ∃ rows : List Value, Rd w v rows ∧ ∀ u ∈ rows, ∃ l : List UInt8, Rd w u (bvs l) := by
  obtain ⟨rows, h1, h2⟩ := open_rows ht he hq ce cq hv h
  refine ⟨rows, h1, fun u hu => ?_⟩
  obtain ⟨zs, h3, h4⟩ := h2 u hu
  obtain ⟨l, hl⟩ := bytes_of zs h4
  exact ⟨l, hl ▸ h3⟩

/-- Strings. -/
theorem open_strs {t e : TypeId} {v : Value} {d : DataW H} {ps : List MemPlace} (ht : P.underlying t = some (.slice e)) (he : P.underlying e = some .string) (ce : P.cellsOf e = 1)
    (hv : Value.okWide P w r b0 t v) (h : DataW.Trod enc P w base spare held t v d ps) : ∃ ss : List ByteArray, Rd w v (ss.map Value.string) ∧ ∀ s ∈ ss, s.size ≤ maxLen := by
  obtain ⟨a0, len0, cap0, rfl⟩ := okWide_slice ht hv
  obtain ⟨fuel, hf⟩ := h
  simp only [Value.cells] at hf
  rcases open_slice1 ht ce hf with ⟨h0, _⟩ | ⟨a, len, cap, m, n, V, D, Pl, h0, _, hl, hm, hmm, _, hx⟩
  · have h0 : a0 = none ∧ len0 = 0 ∧ cap0 = 0 := by simpa using h0
    obtain ⟨rfl, rfl, rfl⟩ := h0
    exact ⟨[], Rd.nil w, by simp⟩
  · have h0 : a0 = some a ∧ len0 = len ∧ cap0 = cap := by simpa using h0
    obtain ⟨rfl, rfl, rfl⟩ := h0
    have hlm : len0 ≤ m := by rw [hmm]; split <;> omega
    have each : ∀ i, i < m → ∃ s : ByteArray, V i = .string s ∧ s.size ≤ maxLen := fun i hi => by
      obtain ⟨s, e1, _, h2⟩ := DataW.trod_string he (hx i hi).2
      exact ⟨s, by simpa using e1, h2⟩
    obtain ⟨f, hf⟩ := choose_lt each
    have hV : ∀ i, i < m → w.cell? (a.add i) = some (.string (f i)) := fun i hi => by rw [← (hf i hi).1]; exact (hx i hi).1
    have h := rd_of_fn (V := fun i => .string (f i)) hl hm hlm hV
    refine ⟨(List.range len0).map f, by rw [List.map_map]; exact h, fun s hs => ?_⟩
    simp only [List.mem_map, List.mem_range] at hs
    obtain ⟨i, hi, rfl⟩ := hs
    exact (hf i (by omega)).2
end
end Go.Proofs.Ytjeeclabnimbbaa

/- Worlds with blocks more: plain facts. -/
namespace Go.Proofs.Ytjeeclabnimbbaa
open Go.RowKit

theorem ext_alloc (w : World) (o : Obj) : Ext w (w.alloc o) := (Below.refl _ _).alloc (Nat.le_refl _) o
theorem ext_drewN (w : World) (n : Nat) : Ext w (w.drewN n) := ⟨rfl, rfl, rfl, Nat.le_refl _, fun _ _ => rfl⟩

theorem ext_set {w w' : World} {b o : Nat} (h : Ext w w') (hb : w.heap.size ≤ b) (v : Value) : Ext w (w'.setCell ⟨b, o, none⟩ v) := Below.setCell h (p := ⟨b, o, none⟩) hb v
end Go.Proofs.Ytjeeclabnimbbaa

/- The pure machine: data, what of it lies in memory, and worlds that keep it. -/
namespace Go.Proofs.Ytjeeclabnimbbaa
open Go.RowKit

/-- Data: one cell's value, or a slice's elements, cell by cell. -/
inductive D where
  | v (x : Value)
  | sl (es : List (List D))

/-- x reads as the data, out of blocks of F alone. -/
inductive DRep (w : World) (F : Nat → Prop) : Value → D → Prop
  | v (x : Value) (h1 : x.oneCell' = true) : DRep w F x (.v x)
  | sl (A : Option Addr) (n c k : Nat) (es : List (List D)) (us : Nat → Value) (hn : n = es.length) (hc : n ≤ c) (hm : c ≤ maxLen) (hk : ∀ e ∈ es, e.length = k)
      (hA : 0 < n → ∃ a, A = some a ∧ F a.block) (hA0 : A = none → c = 0) (hcell : ∀ a j d, A = some a → es.flatten[j]? = some d → w.cell? (a.add j) = some (us j))
      (hrep : ∀ j d, es.flatten[j]? = some d → DRep w F (us j) d) : DRep w F (.slice A n c) (.sl es)

theorem DRep.mono {w w' : World} {F F' : Nat → Prop} {x : Value} {d : D} (h : DRep w F x d) (hF : ∀ g, F g → F' g) (hw : ∀ g, F g → w'.heap[g]? = w.heap[g]?) : DRep w' F' x d := by
  induction h with
  | v x h1 => exact .v x h1
  | sl A n c k es us hn hc hm hk hA hA0 hcell hrep ih =>
    refine .sl A n c k es us hn hc hm hk (fun h => (hA h).imp fun a ha => ⟨ha.1, hF _ ha.2⟩) hA0 (fun a j d ha hj => ?_) ih
    have h0 : 0 < n := by
      rw [hn]
      rcases es with _ | ⟨e, es⟩
      · simp at hj
      · simp
    obtain ⟨a', ha', hFa⟩ := hA h0
    rw [ha] at ha'
    injection ha' with ha'
    subst ha'
    exact (World.cell?_of_block (w := w) (w' := w') (a := a.add j) (by rw [add_block]; exact hw _ hFa)).trans (hcell a j d ha hj)
theorem DRep.one {w : World} {F : Nat → Prop} {x : Value} {d : D} (h : DRep w F x d) : x.oneCell' = true := by
  cases h with
  | v x h1 => exact h1
  | sl => rfl

/-- A nil slice is an empty one. -/
def nrm : D → D
  | .v (.slice none 0 0) => .sl []
  | d => d
theorem DRep.nrm {w : World} {F : Nat → Prop} {x : Value} {d : D} (h : DRep w F x d) : DRep w F x (nrm d) := by
  unfold Go.Proofs.Ytjeeclabnimbbaa.nrm
  split
  · cases h with
    | v _ h1 => exact .sl none 0 0 0 [] (fun _ => undef) rfl (Nat.le_refl _) (by simp [maxLen]) (by simp) (by omega) (fun _ => rfl) (by simp) (by simp)
  · exact h
/-- Values of the pure machine: data, structs and tuples of them, addresses in boxes of the call's own, its own rows, addresses in data. -/
inductive PV where
  | junk
  | d (x : D)
  | ag (cs : List PV)
  | tup (vs : List PV)
  | ptr (t off : Nat)
  | row (t n : Nat)
  | re (t n i off : Nat)
  | vw (t n lo hi : Nat)
  | fe (cs : List D)
  | fn (f : FuncId) (ps qs : List PV)
/-- A variable's block, or a row that may grow. -/
inductive Box where
  | st (ty : TypeId) (cs : List PV)
  | rw (e k : Nat) (es : List (List D))

inductive PRep (ρ : Nat → Value) (b : Nat → Option Box) (w : World) (F : Nat → Prop) : Value → PV → Prop
  | junk (x : Value) : PRep ρ b w F x .junk
  | d (x : Value) (d : D) (h : DRep w F x d) : PRep ρ b w F x (.d d)
  | ag (xs : Array Value) (cs : List PV) (hl : xs.size = cs.length) (h1 : ∀ x ∈ xs, x.oneCell' = true) (hr : ∀ (j : Nat) x c, xs[j]? = some x → cs[j]? = some c → PRep ρ b w F x c) : PRep ρ b w F (.agg xs) (.ag cs)
  | tup (xs : Array Value) (cs : List PV) (hl : xs.size = cs.length) (hr : ∀ (j : Nat) x c, xs[j]? = some x → cs[j]? = some c → PRep ρ b w F x c) : PRep ρ b w F (.tuple xs) (.tup cs)
  | ptr (t off g : Nat) (ty : TypeId) (cs : List PV) (hb : b t = some (.st ty cs)) (hρ : ρ t = .pointer (some ⟨g, 0, none⟩)) : PRep ρ b w F (.pointer (some ⟨g, off, none⟩)) (.ptr t off)
  | row (t n : Nat) (A : Option Addr) (c e k : Nat) (es : List (List D)) (hb : b t = some (.rw e k es)) (hn : n ≤ es.length) (hc : n ≤ c) (hA : 0 < n → ∃ a, A = some a) (hρ : es.length = n → ρ t = .slice A n c) : PRep ρ b w F (.slice A n c) (.row t n)
  | re (t n i off : Nat) (a : Addr) (e k : Nat) (es : List (List D)) (hb : b t = some (.rw e k es)) (hn : n ≤ es.length) (hi : i < n) (hρ : es.length = n → ∃ g c, ρ t = .slice (some ⟨g, 0, none⟩) n c ∧ a = ⟨g, i * k + off, none⟩) : PRep ρ b w F (.pointer (some a)) (.re t n i off)
  | vw (t n lo hi : Nat) (A : Option Addr) (m c e k : Nat) (es : List (List D)) (hb : b t = some (.rw e k es)) (hn : n ≤ es.length) (hl : lo ≤ hi) (hh : hi ≤ n) (hm : m = hi - lo) (hρ : es.length = n → ∃ A' c', ρ t = .slice A' n c' ∧ Value.slice A m c = sliced A' lo hi c' k) : PRep ρ b w F (.slice A m c) (.vw t n lo hi)
  | fe (a : Addr) (cs : List D) (us : Nat → Value) (hF : F a.block) (hcell : ∀ (j : Nat) d, cs[j]? = some d → w.cell? (a.add j) = some (us j)) (hrep : ∀ (j : Nat) d, cs[j]? = some d → DRep w F (us j) d) : PRep ρ b w F (.pointer (some a)) (.fe cs)
  | fn (f : FuncId) (xs ys : Array Value) (ps qs : List PV) (hl : xs.size = ps.length) (hr : ∀ (j : Nat) x c, xs[j]? = some x → ps[j]? = some c → PRep ρ b w F x c) (hl2 : ys.size = qs.length) (hr2 : ∀ (j : Nat) x c, ys[j]? = some x → qs[j]? = some c → PRep ρ b w F x c) : PRep ρ b w F (.func (.func f) xs ys) (.fn f ps qs)

/-- What one step may do to what is read. -/
structure Stp (ρ : Nat → Value) (b : Nat → Option Box) (w : World) (F : Nat → Prop) (ρ' : Nat → Value) (b' : Nat → Option Box) (w' : World) (F' : Nat → Prop) : Prop where
  hF : ∀ g, F g → F' g
  hw : ∀ g, F g → w'.heap[g]? = w.heap[g]?
  hst : ∀ t ty cs, b t = some (.st ty cs) → (∃ ty' cs', b' t = some (.st ty' cs')) ∧ ρ' t = ρ t
  hrw : ∀ t e k es, b t = some (.rw e k es) → ∃ e' es', b' t = some (.rw e' k es') ∧ es.length ≤ es'.length ∧ (es'.length = es.length → ρ' t = ρ t)
theorem Stp.refl (ρ : Nat → Value) (b : Nat → Option Box) (w : World) (F : Nat → Prop) : Stp ρ b w F ρ b w F :=
  ⟨fun _ h => h, fun _ _ => rfl, fun _ ty cs h => ⟨⟨ty, cs, h⟩, rfl⟩, fun _ e _ es h => ⟨e, es, h, Nat.le_refl _, fun _ => rfl⟩⟩

theorem PRep.mono {ρ ρ' : Nat → Value} {b b' : Nat → Option Box} {w w' : World} {F F' : Nat → Prop} {x : Value} {p : PV} (h : PRep ρ b w F x p) (s : Stp ρ b w F ρ' b' w' F') : PRep ρ' b' w' F' x p := by
  induction h with
  | junk x => exact .junk x
  | d x d h => exact .d x d (h.mono s.hF s.hw)
  | ag xs cs hl h1 hr ih => exact .ag xs cs hl h1 ih
  | tup xs cs hl hr ih => exact .tup xs cs hl ih
  | ptr t off g ty cs hb hρ =>
    obtain ⟨⟨ty', cs', hb'⟩, e⟩ := s.hst t ty cs hb
    exact .ptr t off g ty' cs' hb' (e.trans hρ)
  | row t n A c e k es hb hn hc hA hρ =>
    obtain ⟨e', es', hb', hle, hq⟩ := s.hrw t e k es hb
    exact .row t n A c e' k es' hb' (by omega) hc hA (fun h => by rw [hq (by omega)]; exact hρ (by omega))
  | re t n i off a e k es hb hn hi hρ =>
    obtain ⟨e', es', hb', hle, hq⟩ := s.hrw t e k es hb
    exact .re t n i off a e' k es' hb' (by omega) hi (fun h => by rw [hq (by omega)]; exact hρ (by omega))
  | vw t n lo hi A m c e k es hb hn hl hh hm hρ =>
    obtain ⟨e', es', hb', hle, hq⟩ := s.hrw t e k es hb
    exact .vw t n lo hi A m c e' k es' hb' (by omega) hl hh hm (fun h => by rw [hq (by omega)]; exact hρ (by omega))
  | fn f xs ys ps qs hl hr hl2 hr2 ih ih2 => exact .fn f xs ys ps qs hl ih hl2 ih2
  | fe a cs us hF hcell hrep =>
    refine .fe a cs us (s.hF _ hF) (fun j d hj => ?_) (fun j d hj => (hrep j d hj).mono s.hF s.hw)
    exact (World.cell?_of_block (w := w) (w' := w') (a := a.add j) (by rw [add_block]; exact s.hw _ hF)).trans (hcell j d hj)

def blk : Value → Option Nat
  | .pointer (some a) => some a.block
  | .slice (some a) _ _ => some a.block
  | _ => none
/-- A call's beginning: the world, and the blocks of others that the call may turn. -/
structure WM where
  w : World
  M : Nat → Prop
  R : Nat → Option (Value × Option (Nat × Nat))
def WM.own (w0 : WM) (g : Nat) : Prop := w0.w.heap.size ≤ g ∨ w0.M g
/-- All other blocks are as they were. -/
structure ExtM (w0 : WM) (w : World) : Prop where
  os : w.os = w0.w.os
  tape : w.tape = w0.w.tape
  output : w.output = w0.w.output
  size : w0.w.heap.size ≤ w.heap.size
  block : ∀ g, g < w0.w.heap.size → ¬ w0.M g → w.heap[g]? = w0.w.heap[g]?
theorem ExtM.of {w0 : WM} (w : World) (h : w0.w = w) : ExtM w0 w := by subst h; exact ⟨rfl, rfl, rfl, Nat.le_refl _, fun _ _ _ => rfl⟩
theorem ExtM.step {w0 : WM} {w w' : World} (h : ExtM w0 w) (h1 : w'.os = w.os) (h2 : w'.tape = w.tape) (h3 : w'.output = w.output) (h4 : w.heap.size ≤ w'.heap.size) (h5 : ∀ g, g < w0.w.heap.size → ¬ w0.M g → w'.heap[g]? = w.heap[g]?) : ExtM w0 w' :=
  ⟨h1.trans h.os, h2.trans h.tape, h3.trans h.output, Nat.le_trans h.size h4, fun g hg hM => (h5 g hg hM).trans (h.block g hg hM)⟩
theorem ExtM.trans {w0 : WM} {w w' : World} (h : ExtM w0 w) (k : Ext w w') : ExtM w0 w' := h.step k.os k.tape k.output k.size fun g hg _ => k.block g (Nat.lt_of_lt_of_le hg h.size)
theorem not_own {w0 : WM} {g : Nat} (hg : g < w0.w.heap.size) (hM : ¬ w0.M g) : ¬ w0.own g := fun h => h.elim (fun h => by omega) hM
/-- A box lies in a block of the call's own. -/
inductive BoxAt (ρ : Nat → Value) (b : Nat → Option Box) (own : Nat → Prop) (w : World) (F : Nat → Prop) (t : Nat) : Box → Prop
  | st (ty : TypeId) (cs : List PV) (g : Nat) (xs : Array Value) (hρ : ρ t = .pointer (some ⟨g, 0, none⟩)) (hg : own g) (hF : ¬ F g) (hh : w.heap[g]? = some (.cells xs ty (0, 0))) (hl : xs.size = cs.length)
      (h1 : ∀ x ∈ xs, x.oneCell' = true) (hr : ∀ (j : Nat) x c, xs[j]? = some x → cs[j]? = some c → PRep ρ b w F x c) : BoxAt ρ b own w F t (.st ty cs)
  | rw (e k : Nat) (es : List (List D)) (xs : List Value) (hk0 : 0 < k) (ho : w.ownsRow 0 e k (ρ t) es.length xs) (hF : ∀ g, blk (ρ t) = some g → ¬ F g) (hk : ∀ x ∈ es, x.length = k) (hl : xs.length = es.flatten.length)
      (hr : ∀ (j : Nat) x d, xs[j]? = some x → es.flatten[j]? = some d → DRep w F x d) (hown : ∀ g, blk (ρ t) = some g → own g) : BoxAt ρ b own w F t (.rw e k es)
  | gn (e k : Nat) (es : List (List D)) (hρ : ρ t = .tuple #[]) : BoxAt ρ b own w F t (.rw e k es)

/-- A box that the call was handed: a struct lies where it lay; a row is as long and lies where it lay, or is longer. -/
def RegAt (ρ : Nat → Value) (b : Nat → Option Box) (t : Nat) : Value × Option (Nat × Nat) → Prop
  | (x, none) => b t = none ∨ ((∃ ty cs, b t = some (.st ty cs)) ∧ ρ t = x)
  | (x, some (k, n0)) => b t = none ∨ ∃ e es, b t = some (.rw e k es) ∧ n0 ≤ es.length ∧ (es.length = n0 → ρ t = x)
theorem RegAt.mono {ρ ρ' : Nat → Value} {b b' : Nat → Option Box} {t : Nat} {q : Value × Option (Nat × Nat)} (h : RegAt ρ b t q) (h0 : b t = none → b' t = none) (h1 : ∀ ty cs, b t = some (.st ty cs) → (∃ ty' cs', b' t = some (.st ty' cs')) ∧ ρ' t = ρ t)
    (h2 : ∀ e k es, b t = some (.rw e k es) → ∃ e' es', b' t = some (.rw e' k es') ∧ es.length ≤ es'.length ∧ (es'.length = es.length → ρ' t = ρ t)) : RegAt ρ' b' t q := by
  obtain ⟨x, q⟩ := q
  cases q with
  | none =>
    rcases h with h | ⟨⟨ty, cs, h⟩, hx⟩
    · exact .inl (h0 h)
    · obtain ⟨m1, m2⟩ := h1 ty cs h
      exact .inr ⟨m1, m2.trans hx⟩
  | some q =>
    obtain ⟨k, n0⟩ := q
    rcases h with h | ⟨e, es, h, hn, hx⟩
    · exact .inl (h0 h)
    · obtain ⟨e', es', m1, m2, m3⟩ := h2 e k es h
      exact .inr ⟨e', es', m1, by omega, fun he => by rw [m3 (by omega)]; exact hx (by omega)⟩
theorem RegAt.same {ρ ρ' : Nat → Value} {b b' : Nat → Option Box} {t : Nat} {q : Value × Option (Nat × Nat)} (h : RegAt ρ b t q) (h0 : b' t = b t) (h1 : ρ' t = ρ t) : RegAt ρ' b' t q :=
  h.mono (fun e => h0.trans e) (fun ty cs e => ⟨⟨ty, cs, h0.trans e⟩, h1⟩) (fun e k es he => ⟨e, es, h0.trans he, Nat.le_refl _, fun _ => h1⟩)
theorem RegAt.less {ρ : Nat → Value} {b b' : Nat → Option Box} {t : Nat} {q : Value × Option (Nat × Nat)} (h : RegAt ρ b t q) (h0 : b' t = none ∨ b' t = b t) : RegAt ρ b' t q := by
  rcases h0 with h0 | h0
  · obtain ⟨x, q⟩ := q
    cases q with
    | none => exact .inl h0
    | some q => exact .inl h0
  · exact h.same h0 rfl
structure Inv (w0 : WM) (F0 : Nat → Prop) (ρ : Nat → Value) (b : Nat → Option Box) (w : World) (F : Nat → Prop) : Prop where
  ext : ExtM w0 w
  f0 : ∀ g, F0 g → F g
  flt : ∀ g, F g → g < w.heap.size
  fnew : ∀ g, F g → F0 g ∨ w0.own g
  box : ∀ t B, b t = some B → BoxAt ρ b w0.own w F t B
  dist : ∀ t t' B B' g, b t = some B → b t' = some B' → t ≠ t' → blk (ρ t) = some g → blk (ρ t') ≠ some g
  reg : ∀ t q, w0.R t = some q → 1000000 ≤ t ∧ RegAt ρ b t q
theorem Inv.reg_stp {w0 : WM} {F0 : Nat → Prop} {ρ ρ' : Nat → Value} {b b' : Nat → Option Box} {w w' : World} {F F' : Nat → Prop} (hi : Inv w0 F0 ρ b w F) (hs : Stp ρ b w F ρ' b' w' F') (hn : ∀ t, 1000000 ≤ t → b t = none → b' t = none) : ∀ t q, w0.R t = some q → 1000000 ≤ t ∧ RegAt ρ' b' t q := by
  intro t q h
  obtain ⟨h1, h2⟩ := hi.reg t q h
  exact ⟨h1, h2.mono (hn t h1) (hs.hst t) (hs.hrw t)⟩
theorem Inv.reg_less {w0 : WM} {F0 : Nat → Prop} {ρ : Nat → Value} {b b' : Nat → Option Box} {w : World} {F : Nat → Prop} (hi : Inv w0 F0 ρ b w F) (hn : ∀ t, b' t = none ∨ b' t = b t) : ∀ t q, w0.R t = some q → 1000000 ≤ t ∧ RegAt ρ b' t q := by
  intro t q h
  obtain ⟨h1, h2⟩ := hi.reg t q h
  exact ⟨h1, h2.less (hn t)⟩

/-- A state of the pure machine: slots, boxes. -/
structure PS where
  t : Nat → PV
  b : Nat → Option Box
def bupd (b : Nat → Option Box) (u : Option (Nat × Box)) : Nat → Option Box := fun i => match u with | some (j, B) => if i = j then some B else b i | none => b i
def tupd (t : Nat → PV) (dst : Option Nat) (r : PV) : Nat → PV := fun i => if dst = some i then r else t i
def PS.upd (s : PS) (dst : Option Nat) (r : PV) (u : Option (Nat × Box)) : PS := ⟨tupd s.t dst r, bupd s.b u⟩

/-- The frame a and the world w are as the pure state says. -/
def Conc (n : Nat) (w0 : WM) (F0 : Nat → Prop) (s : PS) (a : Act) (w : World) : Prop :=
  a.tmps.size = n ∧ a.defers = [] ∧ ∃ ρ F, Inv w0 F0 ρ s.b w F ∧ ∀ i, PRep ρ s.b w F (a.tmps.getD i undef) (s.t i)

/-- What an operation comes to. -/
def Out (w0 : WM) (F0 : Nat → Prop) (ρ : Nat → Value) (b : Nat → Option Box) (w : World) (F : Nat → Prop) (res : Result Next) (r : PV) (u : Option (Nat × Box)) : Prop :=
  ∃ v w' ρ' F', (res = .ok (.value v) w' ∨ (res = .ok .skip w' ∧ v = undef)) ∧ Inv w0 F0 ρ' (bupd b u) w' F' ∧ Stp ρ b w F ρ' (bupd b u) w' F' ∧ PRep ρ' (bupd b u) w' F' v r
theorem Out.pure {w0 : WM} {F0 : Nat → Prop} {ρ : Nat → Value} {b : Nat → Option Box} {w : World} {F : Nat → Prop} {res : Result Next} {r : PV} {v : Value} (hi : Inv w0 F0 ρ b w F) (h : res = .ok (.value v) w) (hr : PRep ρ b w F v r) : Out w0 F0 ρ b w F res r none :=
  ⟨v, w, ρ, F, .inl h, hi, Stp.refl _ _ _ _, hr⟩
end Go.Proofs.Ytjeeclabnimbbaa

/- The pure machine: lists of cells, boxes, addresses. -/
namespace Go.Proofs.Ytjeeclabnimbbaa
open Go.RowKit

section
variable {ρ ρ' : Nat → Value} {b b' : Nat → Option Box} {w w' : World} {w0 : WM} {F F' F0 : Nat → Prop}

/-- Cell by cell. -/
structure Reps (ρ : Nat → Value) (b : Nat → Option Box) (w : World) (F : Nat → Prop) (xs : List Value) (cs : List PV) : Prop where
  len : xs.length = cs.length
  rep : ∀ (j : Nat) x c, xs[j]? = some x → cs[j]? = some c → PRep ρ b w F x c
theorem Reps.nil : Reps ρ b w F [] [] := ⟨rfl, fun j x c h => by simp at h⟩
theorem Reps.cons {x : Value} {c : PV} {xs : List Value} {cs : List PV} (h : PRep ρ b w F x c) (hs : Reps ρ b w F xs cs) : Reps ρ b w F (x :: xs) (c :: cs) :=
  ⟨by simp [hs.len], fun j x' c' h1 h2 => by
    cases j with
    | zero => simp at h1 h2; subst h1 h2; exact h
    | succ j => simp at h1 h2; exact hs.rep j _ _ h1 h2⟩
theorem Reps.mono {xs : List Value} {cs : List PV} (h : Reps ρ b w F xs cs) (s : Stp ρ b w F ρ' b' w' F') : Reps ρ' b' w' F' xs cs := ⟨h.len, fun j x c h1 h2 => (h.rep j x c h1 h2).mono s⟩
theorem Reps.drop {xs : List Value} {cs : List PV} (h : Reps ρ b w F xs cs) (n : Nat) : Reps ρ b w F (xs.drop n) (cs.drop n) :=
  ⟨by simp [h.len], fun j x c h1 h2 => by rw [List.getElem?_drop] at h1 h2; exact h.rep _ _ _ h1 h2⟩
theorem Reps.take {xs : List Value} {cs : List PV} (h : Reps ρ b w F xs cs) (n : Nat) : Reps ρ b w F (xs.take n) (cs.take n) :=
  ⟨by simp [h.len], fun j x c h1 h2 => by
    rw [List.getElem?_take] at h1 h2
    split at h1
    · rename_i hj
      rw [if_pos hj] at h2
      exact h.rep _ _ _ h1 h2
    · cases h1⟩
theorem Reps.append {xs ys : List Value} {cs ds : List PV} (h : Reps ρ b w F xs cs) (k : Reps ρ b w F ys ds) : Reps ρ b w F (xs ++ ys) (cs ++ ds) :=
  ⟨by simp [h.len, k.len], fun j x c h1 h2 => by
    rw [List.getElem?_append] at h1 h2
    rw [h.len] at h1
    split at h1
    · rename_i hj
      rw [if_pos hj] at h2
      exact h.rep _ _ _ h1 h2
    · rename_i hj
      rw [if_neg hj] at h2
      exact k.rep _ _ _ h1 h2⟩
def splice {α : Type} (cs : List α) (off : Nat) (ns : List α) : List α := cs.take off ++ ns ++ cs.drop (off + ns.length)
theorem Reps.splice {xs ys : List Value} {cs ds : List PV} (h : Reps ρ b w F xs cs) (k : Reps ρ b w F ys ds) (off : Nat) : Reps ρ b w F (splice xs off ys) (splice cs off ds) := by
  unfold Go.Proofs.Ytjeeclabnimbbaa.splice
  rw [k.len]
  exact ((h.take off).append k).append (h.drop _)
theorem splice_len {α : Type} {cs ns : List α} {off : Nat} (h : off + ns.length ≤ cs.length) : (splice cs off ns).length = cs.length := by
  simp [splice]; omega
theorem one_splice {xs ys : List Value} (hx : ∀ x ∈ xs, x.oneCell' = true) (hy : ∀ x ∈ ys, x.oneCell' = true) (off : Nat) : ∀ x ∈ splice xs off ys, x.oneCell' = true := by
  intro x h
  simp only [Go.Proofs.Ytjeeclabnimbbaa.splice, List.mem_append] at h
  rcases h with (h | h) | h
  · exact hx x (List.mem_of_mem_take h)
  · exact hy x h
  · exact hx x (List.mem_of_mem_drop h)

/-- The cells of a value. -/
def cellsP : PV → Option (List PV)
  | .ag cs => some cs
  | .junk => none
  | .tup _ => none
  | p => some [p]
theorem cellsP_reps {x : Value} {p : PV} {ns : List PV} (h : PRep ρ b w F x p) (hp : cellsP p = some ns) : Reps ρ b w F x.cells.toList ns ∧ ∀ y ∈ x.cells.toList, y.oneCell' = true := by
  have one : ∀ {x : Value} {p : PV}, PRep ρ b w F x p → x.oneCell' = true → x.cells = #[x] → Reps ρ b w F x.cells.toList [p] ∧ ∀ y ∈ x.cells.toList, y.oneCell' = true := by
    intro x p h h1 hc
    rw [hc]
    exact ⟨.cons h .nil, fun y hy => by simp at hy; rw [hy]; exact h1⟩
  cases h with
  | junk => cases hp
  | tup => cases hp
  | ag xs cs hl h1 hr =>
    injection hp with hp
    subst hp
    exact ⟨⟨by simpa [Value.cells] using hl, fun j x c h2 h3 => hr j x c (by simpa [Value.cells] using h2) h3⟩, fun y hy => h1 y (by simpa [Value.cells] using hy)⟩
  | d _ dd h =>
    injection hp with hp
    subst hp
    refine one (.d x dd h) h.one ?_
    have := h.one
    cases x <;> first | rfl | (simp [Value.oneCell'] at this)
  | ptr t off g ty cs hb hρ =>
    injection hp with hp
    subst hp
    exact one (.ptr t off g ty cs hb hρ) rfl rfl
  | row t n A c e k es hb hn hc hA hρ =>
    injection hp with hp
    subst hp
    exact one (.row t n A c e k es hb hn hc hA hρ) rfl rfl
  | re t n i off a e k es hb hn hi hρ =>
    injection hp with hp
    subst hp
    exact one (.re t n i off a e k es hb hn hi hρ) rfl rfl
  | vw t n lo hi A m c e k es hb hn hl hh hm hρ =>
    injection hp with hp
    subst hp
    exact one (.vw t n lo hi A m c e k es hb hn hl hh hm hρ) rfl rfl
  | fe a cs us hF hcell hrep =>
    injection hp with hp
    subst hp
    exact one (.fe a cs us hF hcell hrep) rfl rfl
  | fn f xs ys ps qs hl hr hl2 hr2 =>
    injection hp with hp
    subst hp
    exact one (.fn f xs ys ps qs hl hr hl2 hr2) rfl rfl

theorem range_at {n j i : Nat} (h : (List.range n)[j]? = some i) : i = j ∧ j < n := by
  rw [List.getElem?_eq_some_iff] at h
  obtain ⟨h1, h2⟩ := h
  rw [List.getElem_range] at h2
  exact ⟨h2.symm, by simpa using h1⟩
theorem add_at (g off j : Nat) : (⟨g, off, none⟩ : Addr).add j = ⟨g, off + j, none⟩ := by unfold Addr.add; split <;> simp_all

/-- What is read from an address on. -/
def Reads (ρ : Nat → Value) (b : Nat → Option Box) (w : World) (F : Nat → Prop) (a : Addr) (cl : List PV) : Prop :=
  ∃ us : List Value, Reps ρ b w F us cl ∧ (∀ (j : Nat) u, us[j]? = some u → w.cell? (a.add j) = some u) ∧ ∀ u ∈ us, u.oneCell' = true
def addrP (b : Nat → Option Box) : PV → Option (List PV)
  | .ptr t off => match b t with | some (.st _ cs) => some (cs.drop off) | _ => none
  | .fe cs => some (cs.map .d)
  | .re t n i off => match b t with
    | some (.rw _ _ es) => if es.length = n then match es[i]? with | some e => some ((e.drop off).map .d) | none => none else none
    | _ => none
  | _ => none

theorem flat_at {α : Type} (k : Nat) : ∀ (es : List (List α)) (_ : ∀ e ∈ es, e.length = k) (i : Nat) (e : List α), es[i]? = some e → ∀ j, j < k → es.flatten[i * k + j]? = e[j]?
  | [], _, i, e, h, _, _ => by simp at h
  | x :: es, hk, 0, e, h, j, hj => by
    simp at h
    subst h
    have := hk x (by simp)
    rw [List.flatten_cons, Nat.zero_mul, Nat.zero_add, List.getElem?_append_left (by omega)]
  | x :: es, hk, i + 1, e, h, j, hj => by
    simp at h
    have hx := hk x (by simp)
    have ih := flat_at k es (fun e he => hk e (by simp [he])) i e h j hj
    rw [List.flatten_cons, List.getElem?_append_right (by rw [hx, Nat.succ_mul]; omega), hx, Nat.succ_mul, show i * k + k + j - k = i * k + j by omega]
    exact ih
theorem flat_length {α : Type} (k : Nat) : ∀ (es : List (List α)) (_ : ∀ e ∈ es, e.length = k), es.flatten.length = es.length * k
  | [], _ => by simp
  | x :: es, hk => by
    have hx := hk x (by simp)
    rw [List.flatten_cons, List.length_append, flat_length k es (fun e he => hk e (by simp [he])), hx, List.length_cons, Nat.succ_mul]
    omega

theorem drop_flat {α : Type} (k : Nat) : ∀ (l : Nat) (es : List (List α)) (_ : ∀ e ∈ es, e.length = k), l ≤ es.length → (es.drop l).flatten = es.flatten.drop (l * k)
  | 0, es, _, _ => by simp
  | l + 1, [], _, h => by simp at h
  | l + 1, e :: es, hk, h => by
    have he := hk e (by simp)
    rw [List.drop_succ_cons, drop_flat k l es (fun x hx => hk x (by simp [hx])) (by simpa using h), List.flatten_cons, Nat.succ_mul, Nat.add_comm (l * k) k, ← he]
    rw [← List.drop_drop, List.drop_left]
theorem take_flat {α : Type} (es : List (List α)) (m : Nat) (j : Nat) (d : α) (h : (es.take m).flatten[j]? = some d) : es.flatten[j]? = some d := by
  have e : es.flatten = (es.take m).flatten ++ (es.drop m).flatten := by rw [← List.flatten_append, List.take_append_drop]
  rw [e, List.getElem?_append_left (List.getElem?_eq_some_iff.1 h).1]
  exact h
/-- The cells of a row of the call's own, as data. -/
theorem rw_cells {own : Nat → Prop} {t e k : Nat} {es : List (List D)} {g n c : Nat} (h : BoxAt ρ b own w F t (.rw e k es)) (hρ : ρ t = .slice (some ⟨g, 0, none⟩) n c) :
    n = es.length ∧ (∀ x ∈ es, x.length = k) ∧ ∀ j d, es.flatten[j]? = some d → ∃ u, w.cell? ⟨g, j, none⟩ = some u ∧ DRep w F u d := by
  cases h with
  | gn _ _ _ hg => rw [hρ] at hg; cases hg
  | rw _ _ _ xs hk0 ho hF hk hl hr =>
    rw [hρ] at ho
    have hn : n = es.length := by
      rcases ho.2 with ⟨h, _⟩ | ⟨g', cap, cur, h, _⟩
      · cases h
      · injection h
    subst hn
    refine ⟨rfl, hk, fun j d hj => ?_⟩
    have hlt : j < es.flatten.length := (List.getElem?_eq_some_iff.1 hj).1
    have hx : xs[j]? = some (xs[j]'(by omega)) := by simp [hl, hlt]
    refine ⟨_, ?_, hr j _ d hx hj⟩
    rw [ho.cellAt (g := g) j (by rw [flat_length k es hk] at hlt; exact hlt)]
    exact hx

theorem rw_shape {own : Nat → Prop} {t e k : Nat} {es : List (List D)} {A : Option Addr} {n c : Nat} (h : BoxAt ρ b own w F t (.rw e k es)) (hρ : ρ t = .slice A n c) :
    n = es.length ∧ n ≤ c ∧ c ≤ maxLen ∧ (∀ x ∈ es, x.length = k) ∧ 0 < k ∧ ((A = none ∧ es = [] ∧ c = 0) ∨ ∃ g, A = some ⟨g, 0, none⟩) := by
  cases h with
  | gn _ _ _ hg => rw [hρ] at hg; cases hg
  | rw _ _ _ xs hk0 ho hF hk hl hr =>
    rw [hρ] at ho
    rcases ho.2 with ⟨h, h0⟩ | ⟨g', cap, cur, h, _, _, h1, h2, _⟩
    · injection h with e1 e2 e3
      subst e1 e2 e3
      exact ⟨h0.symm, Nat.le_refl _, by simp [maxLen], hk, hk0, .inl ⟨rfl, List.eq_nil_of_length_eq_zero h0, rfl⟩⟩
    · injection h with e1 e2 e3
      subst e1 e2 e3
      exact ⟨rfl, h1, h2, hk, hk0, .inr ⟨g', rfl⟩⟩
/-- The cells of a part of a row of the call's own. -/
theorem vw_cells {own : Nat → Prop} {t e k : Nat} {es : List (List D)} {A : Option Addr} {n c lo hi : Nat} (h : BoxAt ρ b own w F t (.rw e k es)) (hρ : ρ t = .slice A n c) (hl : lo ≤ hi) (hh : hi ≤ n) :
    ∃ A2 c2, sliced A lo hi c k = .slice A2 (hi - lo) c2 ∧ hi - lo ≤ c2 ∧ c2 ≤ maxLen ∧ (A2 = none → hi - lo = 0 ∧ c2 = 0) ∧ (lo < hi → ∃ g, A = some ⟨g, 0, none⟩ ∧ A2 = some ⟨g, lo * k, none⟩) ∧
      ∀ a, A2 = some a → ∀ (j : Nat) d, ((es.drop lo).take (hi - lo)).flatten[j]? = some d → ∃ u, w.cell? (a.add j) = some u ∧ DRep w F u d := by
  obtain ⟨rfl, hc, hm, hk, hk0, hA⟩ := rw_shape h hρ
  unfold sliced
  refine ⟨_, _, rfl, by omega, by omega, fun hn => ?_, fun hlt => ?_, fun a ha j d hj => ?_⟩
  · rcases hA with ⟨rfl, rfl, rfl⟩ | ⟨g, rfl⟩
    · simp at hh; omega
    · split at hn <;> cases hn
  · rcases hA with ⟨rfl, rfl, rfl⟩ | ⟨g, rfl⟩
    · simp at hh; omega
    · refine ⟨g, rfl, ?_⟩
      rw [if_neg (by omega)]
      simp [add_at]
  · have hlen : ((es.drop lo).take (hi - lo)).length = hi - lo := by simp; omega
    have h1 := take_flat _ _ _ _ hj
    have hlt0 := (List.getElem?_eq_some_iff.1 hj).1
    rw [flat_length k _ (fun e he => hk e (List.mem_of_mem_drop (List.mem_of_mem_take he))), hlen] at hlt0
    have hlt : lo < hi := by
      rcases Nat.lt_or_ge lo hi with h | h'
      · exact h
      · rw [show hi - lo = 0 by omega, Nat.zero_mul] at hlt0; omega
    rw [drop_flat k lo es hk (by omega), List.getElem?_drop] at h1
    rcases hA with ⟨rfl, rfl, rfl⟩ | ⟨g, rfl⟩
    · simp at hh; omega
    · rw [if_neg (by omega)] at ha
      injection ha with ha
      subst ha
      obtain ⟨_, _, hcell⟩ := rw_cells h hρ
      obtain ⟨u, h2, h3⟩ := hcell _ d h1
      exact ⟨u, by show w.cell? (((⟨g, 0, none⟩ : Addr).add (lo * k)).add j) = some u; rw [add_at, add_at, Nat.zero_add]; exact h2, h3⟩

theorem addrP_reads {x : Value} {p : PV} {cl : List PV} (hi : Inv w0 F0 ρ b w F) (h : PRep ρ b w F x p) (hp : addrP b p = some cl) : ∃ a, x = .pointer (some a) ∧ Reads ρ b w F a cl := by
  cases h with
  | junk => cases hp
  | d => cases hp
  | ag => cases hp
  | tup => cases hp
  | row => cases hp
  | vw => cases hp
  | fn => cases hp
  | ptr t off g ty cs hb hρ =>
    simp only [addrP, hb] at hp
    injection hp with hp
    subst hp
    refine ⟨_, rfl, ?_⟩
    cases hi.box t _ hb with
    | st _ _ g' xs hρ' hg hF hh hl h1 hr =>
      rw [hρ] at hρ'
      injection hρ' with e
      injection e with e
      injection e with e
      subst e
      have R : Reps ρ b w F xs.toList cs := ⟨by simpa using hl, fun j x c h2 h3 => hr j x c (by simpa using h2) h3⟩
      refine ⟨xs.toList.drop off, R.drop off, fun j u hu => ?_, fun u hu => h1 u (by simpa using List.mem_of_mem_drop hu)⟩
      rw [add_at, cell_of_row w g (off + j) xs ty (0, 0) hh, ← Array.getElem?_toList, ← List.getElem?_drop]
      exact hu
  | fe a cs us hF hcell hrep =>
    injection hp with hp
    subst hp
    refine ⟨a, rfl, (List.range cs.length).map us, ⟨by simp, fun j x c h1 h2 => ?_⟩, fun j u hu => ?_, fun u hu => ?_⟩
    · simp only [List.getElem?_map, Option.map_eq_some_iff] at h1 h2
      obtain ⟨j', hj', rfl⟩ := h1
      obtain ⟨rfl, hj⟩ := range_at hj'
      obtain ⟨d, hd, rfl⟩ := h2
      exact .d _ _ (hrep _ _ hd)
    · simp only [List.getElem?_map, Option.map_eq_some_iff] at hu
      obtain ⟨j', hj', rfl⟩ := hu
      obtain ⟨rfl, hj⟩ := range_at hj'
      exact hcell _ _ (List.getElem?_eq_getElem hj)
    · simp at hu
      obtain ⟨j, hj, rfl⟩ := hu
      exact (hrep j _ (List.getElem?_eq_getElem hj)).one
  | re t n i off a e k es hb hn hi' hρ =>
    simp only [addrP, hb] at hp
    split at hp
    · rename_i hle
      split at hp
      · rename_i el hel
        injection hp with hp
        subst hp
        obtain ⟨g, c, hr, rfl⟩ := hρ hle
        obtain ⟨_, hk, hcell⟩ := rw_cells (hi.box t _ hb) hr
        have hel' : el.length = k := hk el (List.mem_of_getElem? hel)
        have key : ∀ j d, (el.drop off)[j]? = some d → ∃ u, w.cell? ⟨g, i * k + off + j, none⟩ = some u ∧ DRep w F u d := by
          intro j d hd
          rw [List.getElem?_drop] at hd
          have hlt := (List.getElem?_eq_some_iff.1 hd).1
          have := flat_at k es hk i el hel (off + j) (by omega)
          rw [hd] at this
          obtain ⟨u, h1, h2⟩ := hcell _ _ this
          exact ⟨u, by rw [Nat.add_assoc]; exact h1, h2⟩
        refine ⟨_, rfl, (List.range (el.drop off).length).map (fun j => (w.cell? ⟨g, i * k + off + j, none⟩).getD undef), ⟨by simp, fun j x c h1 h2 => ?_⟩, fun j u hu => ?_, fun u hu => ?_⟩
        · simp only [List.getElem?_map, Option.map_eq_some_iff] at h1 h2
          obtain ⟨j', hj', rfl⟩ := h1
          obtain ⟨d, hd, rfl⟩ := h2
          obtain ⟨rfl, hj⟩ := range_at hj'
          obtain ⟨u, h1, h2⟩ := key _ _ hd
          rw [h1]
          exact .d _ _ h2
        · simp only [List.getElem?_map, Option.map_eq_some_iff] at hu
          obtain ⟨j', hj', rfl⟩ := hu
          obtain ⟨rfl, hj⟩ := range_at hj'
          obtain ⟨u, h1, _⟩ := key _ _ (List.getElem?_eq_getElem hj)
          rw [add_at, h1]
          rfl
        · rw [List.mem_map] at hu
          obtain ⟨j, hj, rfl⟩ := hu
          obtain ⟨u, h1, h2⟩ := key _ _ (List.getElem?_eq_getElem (List.mem_range.1 hj))
          rw [h1]
          exact h2.one
      · cases hp
    · cases hp
end
end Go.Proofs.Ytjeeclabnimbbaa

/- The pure machine: boxes are laid, written, grow; calls. -/
namespace Go.Proofs.Ytjeeclabnimbbaa
open Go.RowKit

section
variable {ρ ρ' : Nat → Value} {b b' : Nat → Option Box} {w w' : World} {w0 : WM} {F F' F0 : Nat → Prop}

theorem Ext.blk {w w' : World} (h : Ext w w') {g : Nat} (hg : g < w.heap.size) : w'.heap[g]? = w.heap[g]? := h.block g hg

theorem BoxAt.lt {own : Nat → Prop} {t : Nat} {B : Box} (h : BoxAt ρ b own w F t B) {g : Nat} (hg : blk (ρ t) = some g) : g < w.heap.size ∧ own g ∧ ¬ F g := by
  cases h with
  | st ty cs g' xs hρ hb hF hh hl h1 hr =>
    rw [hρ] at hg
    injection hg with hg
    subst hg
    exact ⟨(Array.getElem?_eq_some_iff.1 hh).1, hb, hF⟩
  | gn e k es hρ => rw [hρ] at hg; cases hg
  | rw e k es xs hk0 ho hF hk hl hr hown =>
    refine ⟨?_, hown g hg, hF g hg⟩
    · rcases ho.2 with ⟨h, _⟩ | ⟨g', cap, cur, h, hb, hh, _⟩
      · rw [h] at hg; cases hg
      · rw [h] at hg; injection hg with hg; subst hg; exact (Array.getElem?_eq_some_iff.1 hh).1
theorem own_sameP {w w' : World} {base e k n : Nat} {v : Value} {xs : List Value} (h : w.ownsRow base e k v n xs) (hb : ∀ g, blk v = some g → w'.heap[g]? = w.heap[g]?) : w'.ownsRow base e k v n xs := by
  refine ⟨h.1, ?_⟩
  rcases h.2 with hn | ⟨g, cap, cur, rfl, hg, hh, hr⟩
  · exact .inl hn
  · exact .inr ⟨g, cap, cur, rfl, hg, (hb g rfl).trans hh, hr⟩
theorem BoxAt.mono {own : Nat → Prop} {t : Nat} {B : Box} (h : BoxAt ρ b own w F t B) (s : Stp ρ b w F ρ' b' w' F') (hρ : ρ' t = ρ t) (hw : ∀ g, blk (ρ t) = some g → w'.heap[g]? = w.heap[g]?) (hF : ∀ g, blk (ρ t) = some g → ¬ F' g) : BoxAt ρ' b' own w' F' t B := by
  cases h with
  | st ty cs g xs hr0 hg hF0 hh hl h1 hr =>
    exact .st ty cs g xs (hρ.trans hr0) hg (hF g (by rw [hr0]; rfl)) ((hw g (by rw [hr0]; rfl)).trans hh) hl h1 (fun j x c h2 h3 => (hr j x c h2 h3).mono s)
  | gn e k es hr0 => exact .gn e k es (hρ.trans hr0)
  | rw e k es xs hk0 ho hF0 hk hl hr hown =>
    refine .rw e k es xs hk0 ?_ (fun g hg => hF g (by rw [← hρ]; exact hg)) hk hl (fun j x d h2 h3 => (hr j x d h2 h3).mono s.hF s.hw) (fun g hg => hown g (by rw [← hρ]; exact hg))
    rw [hρ]
    exact own_sameP ho hw

def rupd (ρ : Nat → Value) (t : Nat) (v : Value) : Nat → Value := fun i => if i = t then v else ρ i
theorem rupd_same (ρ : Nat → Value) (t : Nat) (v : Value) : rupd ρ t v t = v := by simp [rupd]
theorem rupd_ne (ρ : Nat → Value) {t i : Nat} (v : Value) (h : i ≠ t) : rupd ρ t v i = ρ i := by simp [rupd, h]
theorem bupd_same (b : Nat → Option Box) (t : Nat) (B : Box) : bupd b (some (t, B)) t = some B := by simp [bupd]
theorem bupd_ne (b : Nat → Option Box) {t i : Nat} (B : Box) (h : i ≠ t) : bupd b (some (t, B)) i = b i := by simp [bupd, h]
theorem bupd_none (b : Nat → Option Box) : bupd b none = b := rfl

/-- A new box. -/
theorem Inv.new {t : Nat} {B : Box} {v : Value} {w' : World} (hi : Inv w0 F0 ρ b w F) (ht : t < 1000000) (hb : b t = none) (hx : Ext w w') (hv : ∀ g, blk v = some g → w.heap.size ≤ g)
    (hB : Stp ρ b w F (rupd ρ t v) (bupd b (some (t, B))) w' F → BoxAt (rupd ρ t v) (bupd b (some (t, B))) w0.own w' F t B) :
    Inv w0 F0 (rupd ρ t v) (bupd b (some (t, B))) w' F ∧ Stp ρ b w F (rupd ρ t v) (bupd b (some (t, B))) w' F := by
  have hw : ∀ g, g < w.heap.size → w'.heap[g]? = w.heap[g]? := fun g hg => hx.block g hg
  have hne : ∀ t', b t' ≠ none → t' ≠ t := fun t' h e => h (by rw [e]; exact hb)
  have hs : Stp ρ b w F (rupd ρ t v) (bupd b (some (t, B))) w' F := by
    refine ⟨fun _ h => h, fun g hg => hw g (hi.flt g hg), fun t' ty cs h => ?_, fun t' e k es h => ?_⟩
    · have := hne t' (by rw [h]; simp)
      rw [rupd_ne _ _ this, bupd_ne _ _ this]
      exact ⟨⟨ty, cs, h⟩, rfl⟩
    · have := hne t' (by rw [h]; simp)
      rw [rupd_ne _ _ this, bupd_ne _ _ this]
      exact ⟨e, es, h, Nat.le_refl _, fun _ => rfl⟩
  refine ⟨⟨hi.ext.trans hx, hi.f0, fun g hg => Nat.lt_of_lt_of_le (hi.flt g hg) hx.size, hi.fnew, fun t' B' h => ?_, fun t1 t2 B1 B2 g h1 h2 hn hg => ?_, hi.reg_stp hs fun t' h' hn => by rw [bupd_ne _ _ (by omega)]; exact hn⟩, hs⟩
  · by_cases h' : t' = t
    · subst h'
      rw [bupd_same] at h
      injection h with h
      subst h
      exact hB hs
    · rw [bupd_ne _ _ h'] at h
      have hbx := hi.box t' B' h
      exact hbx.mono hs (rupd_ne _ _ h') (fun g hg => hw g (hbx.lt hg).1) (fun g hg => (hbx.lt hg).2.2)
  · by_cases h1' : t1 = t
    · subst h1'
      have h2' : t2 ≠ t1 := Ne.symm hn
      rw [bupd_ne _ _ h2'] at h2
      rw [rupd_same] at hg
      rw [rupd_ne _ _ h2']
      intro e
      have := ((hi.box t2 B2 h2).lt e).1
      have := hv g hg
      omega
    · rw [bupd_ne _ _ h1'] at h1
      rw [rupd_ne _ _ h1'] at hg
      by_cases h2' : t2 = t
      · subst h2'
        rw [rupd_same]
        intro e
        have := ((hi.box t1 B1 h1).lt hg).1
        have := hv g e
        omega
      · rw [bupd_ne _ _ h2'] at h2
        rw [rupd_ne _ _ h2']
        exact hi.dist t1 t2 B1 B2 g h1 h2 hn hg

/-- One box is written, or grows. -/
theorem Inv.turn {t : Nat} {B B' : Box} {v : Value} (hi : Inv w0 F0 ρ b w F) (hb : b t = some B) (hs : Stp ρ b w F (rupd ρ t v) (bupd b (some (t, B'))) w' F)
    (hx : ExtM w0 w') (hsz : w.heap.size ≤ w'.heap.size) (hw : ∀ g, g < w.heap.size → blk (ρ t) ≠ some g → w'.heap[g]? = w.heap[g]?) (hv : ∀ g, blk v = some g → blk (ρ t) = some g ∨ w.heap.size ≤ g)
    (hB : BoxAt (rupd ρ t v) (bupd b (some (t, B'))) w0.own w' F t B') : Inv w0 F0 (rupd ρ t v) (bupd b (some (t, B'))) w' F := by
  refine ⟨hx, hi.f0, fun g hg => Nat.lt_of_lt_of_le (hi.flt g hg) hsz, hi.fnew, fun t' B2 h => ?_, fun t1 t2 B1 B2 g h1 h2 hn hg => ?_, hi.reg_stp hs fun t' h' hn => by rw [bupd_ne _ _ (fun e => by rw [e, hb] at hn; cases hn)]; exact hn⟩
  · by_cases h' : t' = t
    · subst h'
      rw [bupd_same] at h
      injection h with h
      subst h
      exact hB
    · rw [bupd_ne _ _ h'] at h
      have hbx := hi.box t' B2 h
      exact hbx.mono hs (rupd_ne _ _ h') (fun g hg => hw g (hbx.lt hg).1 (fun e => hi.dist t' t B2 B g h hb h' hg e)) (fun g hg => (hbx.lt hg).2.2)
  · by_cases h1' : t1 = t
    · subst h1'
      have h2' : t2 ≠ t1 := Ne.symm hn
      rw [bupd_ne _ _ h2'] at h2
      rw [rupd_same] at hg
      rw [rupd_ne _ _ h2']
      rcases hv g hg with h | h
      · exact hi.dist t1 t2 B B2 g hb h2 hn h
      · intro e
        have := ((hi.box t2 B2 h2).lt e).1
        omega
    · rw [bupd_ne _ _ h1'] at h1
      rw [rupd_ne _ _ h1'] at hg
      by_cases h2' : t2 = t
      · subst h2'
        rw [rupd_same]
        intro e
        rcases hv g e with h | h
        · exact hi.dist t1 t2 B1 B g h1 hb hn hg h
        · have := ((hi.box t1 B1 h1).lt hg).1
          omega
      · rw [bupd_ne _ _ h2'] at h2
        rw [rupd_ne _ _ h2']
        exact hi.dist t1 t2 B1 B2 g h1 h2 hn hg
theorem rupd_self (ρ : Nat → Value) (t : Nat) : rupd ρ t (ρ t) = ρ := by
  funext i
  unfold rupd
  split
  · rename_i h; rw [h]
  · rfl

/-- A struct box is written. -/
theorem Inv.write {t off : Nat} {ty : TypeId} {cs ns : List PV} {g : Nat} {xs : Array Value} {vs : List Value} (hi : Inv w0 F0 ρ b w F) (hb : b t = some (.st ty cs)) (hρ : ρ t = .pointer (some ⟨g, 0, none⟩))
    (hh : w.heap[g]? = some (.cells xs ty (0, 0))) (hl : xs.size = cs.length) (h1 : ∀ x ∈ xs, x.oneCell' = true) (hr : Reps ρ b w F xs.toList cs) (hv : Reps ρ b w F vs ns) (hv1 : ∀ x ∈ vs, x.oneCell' = true) (hfit : off + ns.length ≤ cs.length) :
    Inv w0 F0 ρ (bupd b (some (t, .st ty (splice cs off ns)))) (w.setRow g (splice xs.toList off vs).toArray) F ∧ Stp ρ b w F ρ (bupd b (some (t, .st ty (splice cs off ns)))) (w.setRow g (splice xs.toList off vs).toArray) F := by
  have hbx := hi.box t _ hb
  have hg := hbx.lt (g := g) (by rw [hρ]; rfl)
  have hs : Stp ρ b w F ρ (bupd b (some (t, .st ty (splice cs off ns)))) (w.setRow g (splice xs.toList off vs).toArray) F := by
    refine ⟨fun _ h => h, fun k hk => setRow_other w g k _ (fun e => hg.2.2 (e ▸ hk)), fun t' ty' cs' h => ?_, fun t' e k es h => ?_⟩
    · refine ⟨?_, rfl⟩
      by_cases h' : t' = t
      · subst h'; rw [bupd_same]; exact ⟨_, _, rfl⟩
      · rw [bupd_ne _ _ h']; exact ⟨_, _, h⟩
    · have h' : t' ≠ t := fun e => by rw [e, hb] at h; cases h
      rw [bupd_ne _ _ h']
      exact ⟨e, es, h, Nat.le_refl _, fun _ => rfl⟩
  refine ⟨?_, hs⟩
  have hs2 := hs
  rw [← rupd_self ρ t] at hs
  have := Inv.turn (v := ρ t) (B' := .st ty (splice cs off ns)) (w' := w.setRow g (splice xs.toList off vs).toArray) hi hb (by rw [rupd_self] at hs ⊢; exact hs2)
    (hi.ext.step rfl rfl rfl (by simp) fun k hk hM => setRow_other w g k _ (fun e => not_own hk hM (e ▸ hg.2.1))) (by simp) (fun k _ hk => setRow_other w g k _ (fun e => hk (by rw [hρ, e]; rfl))) (fun k hk => .inl hk) ?_
  · rw [rupd_self] at this; exact this
  · rw [rupd_self]
    have hsp := (hr.splice hv off).mono hs2
    refine .st ty _ g _ hρ hg.2.1 hg.2.2 (setRow_heap w g xs _ ty _ hh) (by have := hsp.len; simpa using this) (fun x hx => ?_) (fun j x c h2 h3 => hsp.rep j x c (by simpa using h2) h3)
    exact one_splice (xs := xs.toList) (fun y hy => h1 y (by simpa using hy)) hv1 off x (by simpa using hx)
end
end Go.Proofs.Ytjeeclabnimbbaa

/- The pure machine: what each operation does. -/
namespace Go.Proofs.Ytjeeclabnimbbaa
open Go.RowKit

structure TI where
  size : Nat
  bytes : Nat
  agg : Bool
  zero : List Value
def aggOf (P : Program) (t : TypeId) : Bool := match P.underlying t with | some (.struct _) | some (.array _ _) => true | _ => false
def fldOf (P : Program) (f : Field) : Option (Nat × Nat × Bool) := match P.info? f.type with | some i => if (P.underlying f.type).isSome then some (f.offset, i.size, aggOf P f.type) else none | none => none
def fldsO (P : Program) (t : TypeId) : Option (List (Nat × Nat × Bool)) := match P.underlying t with | some (.struct fs) => fs.toList.mapM (fldOf P) | _ => none
def fldsOf (P : Program) (t : TypeId) : List (Nat × Nat × Bool) := (fldsO P t).getD []
/-- A type: cells, bytes, whether it is a struct, its zero, its fields. -/
def tinf (P : Program) (t : TypeId) : Option TI :=
  match P.info? t with
  | none => none
  | some i => match i.zero with
    | none => none
    | some z => if (P.underlying t).isSome && z.cells.size == i.size && z.cells.all (·.oneCell') then some ⟨i.size, i.bytes, aggOf P t, z.cells.toList⟩ else none
theorem tinf_spec {P : Program} {t : TypeId} {i : TI} (h : tinf P t = some i) : ∃ j z u, P.info? t = some j ∧ j.zero = some z ∧ P.underlying t = some u ∧ z.cells.size = i.size ∧ j.size = i.size ∧ j.bytes = i.bytes ∧ i.agg = aggOf P t ∧ i.zero = z.cells.toList ∧ ∀ x ∈ i.zero, x.oneCell' = true := by
  unfold tinf at h
  split at h
  · cases h
  · rename_i j hj
    split at h
    · cases h
    · rename_i z hz
      split at h
      · rename_i hc
        simp only [Bool.and_eq_true, Option.isSome_iff_exists, beq_iff_eq] at hc
        obtain ⟨⟨⟨u, hu⟩, hs⟩, h1⟩ := hc
        injection h with h
        subst h
        exact ⟨j, z, u, hj, hz, hu, hs, rfl, rfl, rfl, rfl, fun x hx => (Array.all_eq_true_iff_forall_mem.1 h1) x (by simpa using hx)⟩
      · cases h

def ofVal : Value → PV
  | .agg xs => if xs.all (·.oneCell') then .ag (xs.toList.map fun x => .d (.v x)) else .junk
  | .tuple _ => .junk
  | v => .d (.v v)
def ev (s : PS) : Operand → PV
  | .tmp i => s.t i
  | .const v => ofVal v
  | .func f => .fn f [] []
  | _ => .junk
def asSl (b : Nat → Option Box) : PV → Option (List (List D))
  | .d (.sl es) => some es
  | .d (.v (.slice none n c)) => if n = 0 ∧ c = 0 then some [] else none
  | .row t n => match b t with
    | some (.rw _ _ es) => if es.length = n then some es else none
    | _ => none
  | .vw t n lo hi => match b t with
    | some (.rw _ _ es) => if es.length = n then some ((es.drop lo).take (hi - lo)) else none
    | _ => none
  | _ => none
def lenP : PV → Option Nat
  | .d (.sl es) => some es.length
  | .d (.v (.slice _ n _)) => some n
  | .row _ n => some n
  | .vw _ _ lo hi => some (hi - lo)
  | _ => none
def packP (size : Nat) (agg : Bool) (cl : List PV) : Option PV :=
  if agg then (if size ≤ cl.length then some (.ag (cl.take size)) else none) else cl.head?

section
variable {P : Program} {ρ ρ' : Nat → Value} {b b' : Nat → Option Box} {w w' : World} {w0 : WM} {F F' F0 : Nat → Prop}

theorem ofVal_rep (v : Value) : PRep ρ b w F v (ofVal v) := by
  cases v with
  | agg xs =>
    simp only [ofVal]
    split
    · rename_i h
      rw [Array.all_eq_true_iff_forall_mem] at h
      refine .ag xs _ (by simp) h (fun j x c h1 h2 => ?_)
      rw [List.getElem?_map, Array.getElem?_toList, h1] at h2
      injection h2 with h2
      subst h2
      exact .d x _ (.v x (h x (Array.mem_of_getElem? h1)))
    · exact .junk _
  | tuple xs => exact .junk _
  | _ => exact .d _ _ (.v _ rfl)
theorem ev_rep {s : PS} {a : Act} (h : ∀ i, PRep ρ s.b w F (a.tmps.getD i undef) (s.t i)) (x : Operand) : PRep ρ s.b w F (a.eval x) (ev s x) := by
  cases x with
  | tmp i => exact h i
  | const v => exact ofVal_rep v
  | global g => exact .junk _
  | func f => exact .fn f #[] #[] [] [] rfl (fun j x c h _ => by simp at h) rfl (fun j x c h _ => by simp at h)

theorem PRep.int {x : Value} {k : IntKind} {n : Int} (h : PRep ρ b w F x (.d (.v (.int k n)))) : x = .int k n := by
  cases h with
  | d _ _ h => cases h; rfl
theorem PRep.vv {x v : Value} (h : PRep ρ b w F x (.d (.v v))) : x = v ∧ v.oneCell' = true := by
  cases h with
  | d _ _ h => cases h with | v _ h1 => exact ⟨rfl, h1⟩
theorem PRep.lit {v : Value} (h1 : v.oneCell' = true) : PRep ρ b w F v (.d (.v v)) := .d _ _ (.v _ h1)

/-- A slice that can be read. -/
theorem asSl_reads {x : Value} {p : PV} {es : List (List D)} (hi : Inv w0 F0 ρ b w F) (h : PRep ρ b w F x p) (hp : asSl b p = some es) :
    ∃ A c k, x = .slice A es.length c ∧ es.length ≤ c ∧ c ≤ maxLen ∧ (∀ e ∈ es, e.length = k) ∧ (A = none → es = [] ∧ c = 0) ∧
      ∀ a, A = some a → ∀ (j : Nat) d, es.flatten[j]? = some d → ∃ u, w.cell? (a.add j) = some u ∧ DRep w F u d := by
  cases h with
  | junk => cases hp
  | ag => cases hp
  | tup => cases hp
  | ptr => cases hp
  | re => cases hp
  | fe => cases hp
  | fn => cases hp
  | d _ dd h =>
    cases h with
    | v _ h1 =>
      unfold asSl at hp
      split at hp
      · rename_i e; cases e
      · rename_i e
        injection e with e
        injection e with e
        subst e
        split at hp
        · rename_i hn
          obtain ⟨rfl, rfl⟩ := hn
          injection hp with hp
          subst hp
          exact ⟨none, 0, 0, rfl, Nat.le_refl _, by simp [maxLen], fun _ h => by simp at h, fun _ => ⟨rfl, rfl⟩, fun a ha => by cases ha⟩
        · cases hp
      · rename_i e; cases e
      · rename_i e; cases e
      · cases hp
    | sl A n c k es' us hn hc hm hk hA hAc hcell hrep =>
      injection hp with hp
      subst hp
      refine ⟨A, c, k, by rw [hn], by omega, hm, hk, fun hA0 => ⟨?_, hAc hA0⟩, fun a ha j d hj => ⟨us j, hcell a j d ha hj, hrep j d hj⟩⟩
      rcases es' with _ | ⟨e, es'⟩
      · rfl
      · obtain ⟨a, ha, _⟩ := hA (by rw [hn]; simp)
        rw [hA0] at ha
        cases ha
  | row t n A c e k es' hb hn hc _ hρ =>
    simp only [asSl, hb] at hp
    split at hp
    · rename_i hl
      injection hp with hp
      subst hp
      have hbx := hi.box t _ hb
      have hr := hρ hl
      cases hbx with
      | gn _ _ _ hg => rw [hr] at hg; cases hg
      | rw _ _ _ xs hk0 ho hF hk hl' hrep =>
        rw [hr] at ho
        rcases ho.2 with ⟨h, h0⟩ | ⟨g, cap, cur, h, hb2, hh, hc2, hm, _⟩
        · injection h with hA hn' hc'
          subst hA hc'
          rw [hl, hn']
          have : es' = [] := List.eq_nil_of_length_eq_zero h0
          subst this
          exact ⟨none, 0, k, rfl, Nat.le_refl _, by simp [maxLen], fun _ h => by simp at h, fun _ => ⟨rfl, rfl⟩, fun a ha => by cases ha⟩
        · injection h with hA hn' hc'
          subst hA hc'
          have hz : BoxAt ρ b w0.own w F t (.rw e k es') := hi.box t _ hb
          obtain ⟨_, _, hcell⟩ := rw_cells hz hr
          refine ⟨_, c, k, by rw [hl], by omega, hm, hk, (fun h => by cases h), fun a ha j d hj => ?_⟩
          injection ha with ha
          subst ha
          obtain ⟨u, h1, h2⟩ := hcell j d hj
          exact ⟨u, by rw [add_at, Nat.zero_add]; exact h1, h2⟩
    · cases hp
  | vw t n lo hi' A m c e k es' hb hn hl hh hm hρ =>
    simp only [asSl, hb] at hp
    split at hp
    · rename_i hln
      injection hp with hp
      subst hp
      obtain ⟨A', c', hr, hs⟩ := hρ hln
      have hbx := hi.box t _ hb
      obtain ⟨A2, c2, e1, h1, h2, h3, _, h5⟩ := vw_cells hbx hr hl hh
      rw [e1] at hs
      injection hs with q1 q2 q3
      subst q1 q2 q3
      have hlen : ((es'.drop lo).take (hi' - lo)).length = hi' - lo := by simp; omega
      refine ⟨A, c, k, by rw [hlen, hm], by rw [hlen]; omega, h2, fun e he => (rw_shape hbx hr).2.2.2.1 e (List.mem_of_mem_drop (List.mem_of_mem_take he)), fun hA => ⟨List.eq_nil_of_length_eq_zero (by rw [hlen]; exact (h3 hA).1), (h3 hA).2⟩, h5⟩
    · cases hp
theorem lenP_spec {x : Value} {p : PV} {n : Nat} (h : PRep ρ b w F x p) (hp : lenP p = some n) : ∃ A c, x = .slice A n c := by
  cases h with
  | junk => cases hp
  | ag => cases hp
  | tup => cases hp
  | ptr => cases hp
  | re => cases hp
  | fe => cases hp
  | fn => cases hp
  | row t n' A c e k es' hb hn hc _ hρ => injection hp with hp; subst hp; exact ⟨A, c, rfl⟩
  | vw t n' lo hi A m c e k es' hb hn hl hh hm hρ => injection hp with hp; subst hp; exact ⟨A, c, by rw [hm]⟩
  | d _ dd h =>
    cases h with
    | v _ h1 =>
      unfold lenP at hp
      split at hp
      · rename_i e; cases e
      · rename_i e
        injection e with e
        injection e with e
        subst e
        injection hp with hp
        subst hp
        exact ⟨_, _, rfl⟩
      · rename_i e; cases e
      · rename_i e; cases e
      · cases hp
    | sl A n' c k es' us hn hc hm hk hA _ hcell hrep =>
      injection hp with hp
      subst hp
      exact ⟨A, c, by rw [hn]⟩
end
end Go.Proofs.Ytjeeclabnimbbaa

/- The pure machine: structs of numbers, truths and texts, held against one another. -/
namespace Go.Proofs.Ytjeeclabnimbbaa
open Go.RowKit

def eqLeaf : Nat → PV → PV → Option Bool
  | 0, .d (.v (.int k a)), .d (.v (.int k' b)) => if k = k' then some (a == b) else none
  | 1, .d (.v (.bool a)), .d (.v (.bool b)) => some (a == b)
  | 2, .d (.v (.string a)), .d (.v (.string b)) => some (a.toList == b.toList)
  | _, _, _ => none
def eqBy : List Nat → List PV → List PV → Option Bool
  | [], [], [] => some true
  | k :: ks, x :: xs, y :: ys => match eqLeaf k x y with
    | some a => match eqBy ks xs ys with
      | some r => some (a && r)
      | none => none
    | none => none
  | _, _, _ => none
def leafFs (lf : TypeId → Option (List Nat)) (P : Program) : List Field → Nat → Option (List Nat)
  | [], _ => some []
  | f :: fs, off => match P.info? f.type, lf f.type with
    | some i, some l => if f.name ≠ "_" ∧ f.offset = off ∧ l.length = i.size ∧ 0 < i.size ∧ (P.underlying f.type).isSome = true then (leafFs lf P fs (off + i.size)).map (l ++ ·) else none
    | _, _ => none
/-- The kinds of a struct's cells, where all are numbers (0), truths (1), texts (2). -/
def leafs (P : Program) : Nat → TypeId → Option (List Nat)
  | 0, _ => none
  | d + 1, t => match P.underlying t with
    | some (.int _) => some [0]
    | some .bool => some [1]
    | some .string => some [2]
    | some (.struct fs) => if P.stoodInHeld t then none else leafFs (leafs P d) P fs.toList 0
    | _ => none
def eqTy (P : Program) (t : TypeId) : Option (List Nat) := if aggOf P t && !P.eqGuardType P.depth t then leafs P 6 t else none

section
variable {P : Program} {ρ : Nat → Value} {b : Nat → Option Box} {w : World} {F : Nat → Prop}

theorem eqBy_split : ∀ (k1 k2 : List Nat) {xs ys : List PV} {r : Bool}, eqBy (k1 ++ k2) xs ys = some r → ∃ a c, eqBy k1 (xs.take k1.length) (ys.take k1.length) = some a ∧ eqBy k2 (xs.drop k1.length) (ys.drop k1.length) = some c ∧ r = (a && c)
  | [], k2, xs, ys, r, h => ⟨true, r, rfl, h, by simp⟩
  | k :: k1, k2, xs, ys, r, h => by
    match xs, ys, h with
    | x :: xs, y :: ys, h =>
      simp only [List.cons_append, eqBy] at h
      split at h
      · rename_i a ha
        split at h
        · rename_i r' hr
          injection h with h
          obtain ⟨a', c, h1, h2, h3⟩ := eqBy_split k1 k2 hr
          exact ⟨a && a', c, by simp [eqBy, ha, h1], by simpa using h2, by rw [← h, h3, Bool.and_assoc]⟩
        · cases h
      · cases h
    | [], [], h => simp [eqBy] at h
    | [], _ :: _, h => simp [eqBy] at h
    | _ :: _, [], h => simp [eqBy] at h
def valOf (P : Program) (t : TypeId) (xs : List Value) : Value := if aggOf P t then .agg xs.toArray else xs.headD undef
theorem part_valOf {t : TypeId} {u : TypeDesc} {i : TypeInfo} (hu : P.underlying t = some u) (hi : P.info? t = some i) (xs : Array Value) (off : Nat) (hfit : off + i.size ≤ xs.size) (h1 : aggOf P t = false → i.size = 1) : (part t xs off).run P w = .ok (valOf P t ((xs.toList.drop off).take i.size)) w := by
  have ha : (isAgg t).run P w = .ok (aggOf P t) w := by
    unfold isAgg
    rw [Sem.run_bind, run_underlying hu w]
    unfold aggOf
    rw [hu]
    cases u <;> rfl
  unfold valOf
  cases hb : aggOf P t with
  | true =>
    have e : (xs.extract off (off + i.size)) = ((xs.toList.drop off).take i.size).toArray := by
      apply Array.ext'
      simp [Array.toList_extract, List.extract]
    simp [part, ha, hb, sizeOf, typeInfo, hi, e]
  | false =>
    have hs := h1 hb
    have hlt : off < xs.size := by omega
    have e : ((xs.toList.drop off).take i.size).headD undef = xs[off] := by
      rw [hs, List.drop_eq_getElem_cons (by simpa using hlt)]
      simp
    simp only [Bool.false_eq_true, if_false]
    rw [e]
    simp [part, ha, hb, hlt]
structure RepsL (ρ : Nat → Value) (b : Nat → Option Box) (w : World) (F : Nat → Prop) (xs : List Value) (cs : List PV) : Prop where
  reps : Reps ρ b w F xs cs
theorem leafs_ok : ∀ (d D : Nat) (t : TypeId) (l : List Nat) (xs ys : List Value) (cs ds : List PV) (r : Bool), leafs P d t = some l → Reps ρ b w F xs cs → Reps ρ b w F ys ds → eqBy l cs ds = some r → (aggOf P t = false → xs.length = 1) →
    (Op.equalIn (D + d) t (valOf P t xs) (valOf P t ys)).run P w = .ok r w
  | 0, _, _, _, _, _, _, _, _, h, _, _, _, _ => by cases h
  | d + 1, D, t, l, xs, ys, cs, ds, r, h, hx, hy, he, _ => by
    have one : ∀ (k : Nat), l = [k] → ∃ x y c e a, cs = [c] ∧ ds = [e] ∧ xs = [x] ∧ ys = [y] ∧ eqLeaf k c e = some a ∧ r = a ∧ PRep ρ b w F x c ∧ PRep ρ b w F y e := by
      rintro k rfl
      match cs, ds, he with
      | [], [], he => simp [eqBy] at he
      | [], _ :: _, he => simp [eqBy] at he
      | _ :: _, [], he => simp [eqBy] at he
      | c :: cs, e :: ds, he =>
        simp only [eqBy] at he
        split at he
        · rename_i a ha
          match cs, ds, he with
          | [], [], he =>
            simp [eqBy] at he
            have l1 := hx.len
            have l2 := hy.len
            match xs, ys, l1, l2 with
            | [x], [y], _, _ => exact ⟨x, y, c, e, a, rfl, rfl, rfl, rfl, ha, he.symm, hx.rep 0 x c rfl rfl, hy.rep 0 y e rfl rfl⟩
          | [], _ :: _, he => simp [eqBy] at he
          | _ :: _, [], he => simp [eqBy] at he
          | _ :: _, _ :: _, he => simp [eqBy] at he
        · cases he
    unfold leafs at h
    split at h
    · rename_i k hu
      injection h with h
      obtain ⟨x, y, c, e, a, rfl, rfl, rfl, rfl, h1, rfl, h2, h3⟩ := one 0 h.symm
      have ha : aggOf P t = false := by simp [aggOf, hu]
      unfold eqLeaf at h1
      split at h1 <;> first
        | (split at h1
           · rename_i hk; subst hk; injection h1 with h1; subst h1
             obtain rfl := h2.vv.1
             obtain rfl := h3.vv.1
             simp only [valOf, ha]
             exact run_equalIn_int w (D + d) t _ k _ _ hu
           · cases h1)
        | (exfalso; omega)
        | cases h1
    · rename_i hu
      injection h with h
      obtain ⟨x, y, c, e, a, rfl, rfl, rfl, rfl, h1, rfl, h2, h3⟩ := one 1 h.symm
      have ha : aggOf P t = false := by simp [aggOf, hu]
      unfold eqLeaf at h1
      split at h1 <;> first
        | (injection h1 with h1; subst h1
           obtain rfl := h2.vv.1
           obtain rfl := h3.vv.1
           simp only [valOf, ha]
           exact run_equalIn_bool' w (D + d) t _ _ hu)
        | (exfalso; omega)
        | cases h1
    · rename_i hu
      injection h with h
      obtain ⟨x, y, c, e, a, rfl, rfl, rfl, rfl, h1, rfl, h2, h3⟩ := one 2 h.symm
      have ha : aggOf P t = false := by simp [aggOf, hu]
      unfold eqLeaf at h1
      split at h1 <;> first
        | (injection h1 with h1; subst h1
           obtain rfl := h2.vv.1
           obtain rfl := h3.vv.1
           simp only [valOf, ha]
           exact run_equalIn_string w (D + d) t _ _ hu)
        | (exfalso; omega)
        | cases h1
    · rename_i fs hu
      split at h
      · cases h
      · rename_i hst
        have ha : aggOf P t = true := by simp [aggOf, hu]
        have hfo : P.fieldsOf t = fs := by simp [Program.fieldsOf, hu]
        simp only [valOf, ha, if_true]
        rw [show D + (d + 1) = (D + d) + 1 by omega, run_equalIn_agg w (D + d) t _ _ (by rw [hfo]; exact hu) (by simpa using hst), hfo]
        have key : ∀ (fl : List Field) (off : Nat) (l : List Nat) (r : Bool), leafFs (leafs P d) P fl off = some l → eqBy l (cs.drop off) (ds.drop off) = some r → (Op.eqFields (D + d) xs.toArray ys.toArray fl).run P w = .ok r w := by
          intro fl
          induction fl with
          | nil =>
            intro off l r h he
            simp only [leafFs] at h
            injection h with h
            subst h
            match cs.drop off, ds.drop off, he with
            | [], [], he => simp [eqBy] at he; subst he; rfl
            | [], _ :: _, he => simp [eqBy] at he
            | _ :: _, _, he => simp [eqBy] at he
          | cons f fl ih =>
            intro off l r h he
            simp only [leafFs] at h
            split at h
            · rename_i i lf hi hlf
              split at h
              · rename_i hc
                obtain ⟨hn, hoff, hlen, hpos, hu2⟩ := hc
                rw [Option.map_eq_some_iff] at h
                obtain ⟨l2, h3, rfl⟩ := h
                obtain ⟨a, c, h4, h5, rfl⟩ := eqBy_split lf l2 he
                obtain ⟨u, hu2⟩ := Option.isSome_iff_exists.1 hu2
                have e1 : (cs.drop off).take lf.length = (cs.drop off).take i.size := by rw [hlen]
                have hcl : ∀ {k : List Nat} {x y : List PV} {a : Bool}, eqBy k x y = some a → x.length = k.length ∧ y.length = k.length := by
                  intro k
                  induction k with
                  | nil =>
                    intro x y a h
                    match x, y, h with
                    | [], [], _ => exact ⟨rfl, rfl⟩
                    | [], _ :: _, h => simp [eqBy] at h
                    | _ :: _, _, h => simp [eqBy] at h
                  | cons k ks ihk =>
                    intro x y a h
                    match x, y, h with
                    | x :: xs, y :: ys, h =>
                      simp only [eqBy] at h
                      split at h
                      · split at h
                        · rename_i h2
                          have := ihk h2
                          simp [this.1, this.2]
                        · cases h
                      · cases h
                    | [], _, h => simp [eqBy] at h
                    | _ :: _, [], h => simp [eqBy] at h
                obtain ⟨c1, c2⟩ := hcl h4
                have hxl := hx.len
                have hyl := hy.len
                have s1 : aggOf P f.type = false → i.size = 1 := by
                  intro hag
                  rw [← hlen]
                  cases d with
                  | zero => simp [leafs] at hlf
                  | succ d' =>
                    simp only [leafs, hu2] at hlf
                    unfold aggOf at hag
                    rw [hu2] at hag
                    cases u <;> simp at hlf hag <;> first | (rw [← hlf]; rfl) | skip
                have p1 := part_valOf (w := w) hu2 hi xs.toArray off (by rw [List.length_take, List.length_drop] at c1 c2; simp; omega) s1
                have p2 := part_valOf (w := w) hu2 hi ys.toArray off (by rw [List.length_take, List.length_drop] at c1 c2; simp; omega) s1
                have ihd := leafs_ok d D f.type lf ((xs.drop off).take i.size) ((ys.drop off).take i.size) ((cs.drop off).take i.size) ((ds.drop off).take i.size) a hlf ((hx.drop off).take _) ((hy.drop off).take _) (by rw [hlen] at h4; exact h4) (fun hag => by
                  have := s1 hag
                  simp at c1 c2 ⊢
                  omega)
                have ihr := ih (off + i.size) l2 c h3 (by rw [hlen, List.drop_drop, List.drop_drop] at h5; exact h5)
                simp only [Op.eqFields]
                rw [if_pos hn, hoff]
                simp only [Sem.run_bind, p1, p2, Result.andThen_ok]
                rw [show (xs.toArray.toList.drop off).take i.size = (xs.drop off).take i.size by simp, show (ys.toArray.toList.drop off).take i.size = (ys.drop off).take i.size by simp, ihd]
                cases a
                · simp
                · simpa using ihr
              · cases h
            · cases h
        exact key fs.toList 0 l r h (by simpa using he)
    · cases h
end
end Go.Proofs.Ytjeeclabnimbbaa

/- The pure machine: the operations, one by one. -/
namespace Go.Proofs.Ytjeeclabnimbbaa
open Go.RowKit

def asI : PV → Option (IntKind × Int) | .d (.v (.int k n)) => some (k, n) | _ => none
def asB : PV → Option Bool | .d (.v (.bool t)) => some t | _ => none
def asS : PV → Option ByteArray | .d (.v (.string t)) => some t | _ => none
/-- Numbers. -/
def arith (op : BinOp) (k : IntKind) (x y : Int) : Option PV :=
  match op with
  | .add => some (.d (.v (.int k (k.wrap (x + y)))))
  | .sub => some (.d (.v (.int k (k.wrap (x - y)))))
  | .mul => some (.d (.v (.int k (k.wrap (x * y)))))
  | .quo => if y = 0 then none else some (.d (.v (.int k (k.wrap (x.tdiv y)))))
  | .rem => if y = 0 then none else some (.d (.v (.int k (x.tmod y))))
  | .eql => some (.d (.v (.bool (x == y))))
  | .neq => some (.d (.v (.bool (x != y))))
  | .lss => some (.d (.v (.bool (decide (x < y)))))
  | .leq => some (.d (.v (.bool (decide (x ≤ y)))))
  | .gtr => some (.d (.v (.bool (decide (x > y)))))
  | .geq => some (.d (.v (.bool (decide (x ≥ y)))))
  | .and => some (.d (.v (.int k (bits .and k x y))))
  | .or => some (.d (.v (.int k (bits .or k x y))))
  | .xor => some (.d (.v (.int k (bits .xor k x y))))
  | _ => none
def shiftP (op : BinOp) (k : IntKind) (x y : Int) : Option PV :=
  if y < 0 then none else match op with
  | .shl => some (.d (.v (.int k (k.wrap (x * 2 ^ (min y.toNat k.bits))))))
  | .shr => some (.d (.v (.int k (x.fdiv (2 ^ (min y.toNat k.bits))))))
  | _ => none
def isShift : BinOp → Bool | .shl => true | .shr => true | _ => false
/-- Texts. -/
def texts (op : BinOp) (x y : ByteArray) : Option PV :=
  match op with
  | .add => if x.size + y.size ≤ 9223372036854775807 then some (.d (.v (.string (x ++ y)))) else none
  | .eql => some (.d (.v (.bool (x.toList == y.toList))))
  | .neq => some (.d (.v (.bool (!(x.toList == y.toList)))))
  | .lss => some (.d (.v (.bool (Op.bytesLess x.toList y.toList))))
  | .leq => some (.d (.v (.bool (Op.bytesLess x.toList y.toList || x.toList == y.toList))))
  | .gtr => some (.d (.v (.bool (!(Op.bytesLess x.toList y.toList || x.toList == y.toList)))))
  | .geq => some (.d (.v (.bool (!Op.bytesLess x.toList y.toList))))
  | _ => none
def truths (op : BinOp) (x y : Bool) : Option PV :=
  match op with
  | .eql => some (.d (.v (.bool (x == y))))
  | .neq => some (.d (.v (.bool (!(x == y)))))
  | _ => none
/-- Structs against one another. -/
def effEqS (P : Program) (op : BinOp) (t : TypeId) (p q : PV) : Option PV :=
  match p, q, eqTy P t with
  | .ag xs, .ag ys, some l => match eqBy l xs ys with
    | some r => truths op r true
    | none => none
  | _, _, _ => none
def effBin (P : Program) (op : BinOp) (t : TypeId) (p q : PV) : Option PV :=
  match asI p, asI q with
  | some (k, x), some (k', y) => if isShift op then shiftP op k x y else if k = k' then arith op k x y else none
  | _, _ => match asS p, asS q with
    | some x, some y => texts op x y
    | _, _ => match asB p, asB q, P.underlying t with
      | some x, some y, some .bool => truths op x y
      | _, _, _ => effEqS P op t p q
def effUn (op : UnOp) (p : PV) : Option PV :=
  match op with
  | .not => (asB p).map fun x => .d (.v (.bool (!x)))
  | .neg => (asI p).map fun (k, x) => .d (.v (.int k (k.wrap (0 - x))))
  | _ => none
def effConv (P : Program) (src dst : TypeId) (p : PV) : Option PV :=
  match P.underlying src, P.underlying dst with
  | some _, some (.int k) => (asI p).map fun (_, x) => .d (.v (.int k (k.wrap x)))
  | some _, some .string => (asS p).map fun x => .d (.v (.string x))
  | _, _ => none
def effFieldAddr (P : Program) (t : TypeId) (p : PV) (f : Nat) : Option PV :=
  match (fldsOf P t)[f]? with
  | some (off, size, _) => if size = 0 then none else match p with
    | .ptr t o => some (.ptr t (o + off))
    | .fe cs => some (.fe (cs.drop off))
    | .re t n i o => some (.re t n i (o + off))
    | _ => none
  | none => none
def effField (P : Program) (t : TypeId) (p : PV) (f : Nat) : Option PV :=
  match (fldsOf P t)[f]?, p with
  | some (off, size, agg), .ag cs => packP size agg (cs.drop off)
  | _, _ => none
def effLoad (P : Program) (b : Nat → Option Box) (t : TypeId) (p : PV) : Option PV :=
  match tinf P t, addrP b p with
  | some i, some cl => packP i.size i.agg cl
  | _, _ => none
def effIndexAddr (P : Program) (b : Nat → Option Box) (t : TypeId) (p q : PV) : Option PV :=
  match P.underlying t, asI q with
  | some (.slice e), some (_, i) => match tinf P e with
    | some ie => if 0 ≤ i then match p with
      | .d (.sl es) => match es[i.toNat]? with
        | some el => if el.length = ie.size then some (.fe el) else none
        | none => none
      | .row t n => match b t with
        | some (.rw _ k _) => if k = ie.size ∧ i.toNat < n then some (.re t n i.toNat 0) else none
        | _ => none
      | _ => none
      else none
    | none => none
  | _, _ => none
def effExtract (p : PV) (i : Nat) : Option PV := match p with | .tup vs => vs[i]? | _ => none
def effLen (P : Program) (t : TypeId) (p : PV) : Option PV :=
  match P.underlying t with
  | some (.slice _) => (lenP p).map fun (n : Nat) => .d (.v (.int .i64 (n : Int)))
  | some .string => (asS p).map fun x => .d (.v (.int .i64 x.size))
  | _ => none

section
variable {P : Program} {ρ ρ' : Nat → Value} {b b' : Nat → Option Box} {w w' : World} {w0 : WM} {F F' F0 : Nat → Prop}

theorem asI_spec {x : Value} {p : PV} {k : IntKind} {n : Int} (h : PRep ρ b w F x p) (hp : asI p = some (k, n)) : x = .int k n := by
  unfold asI at hp
  split at hp
  · injection hp with hp; injection hp with h1 h2; subst h1 h2; exact h.int
  · cases hp
theorem asB_spec {x : Value} {p : PV} {t : Bool} (h : PRep ρ b w F x p) (hp : asB p = some t) : x = .bool t := by
  unfold asB at hp
  split at hp
  · injection hp with hp; subst hp; exact h.vv.1
  · cases hp
theorem asS_spec {x : Value} {p : PV} {t : ByteArray} (h : PRep ρ b w F x p) (hp : asS p = some t) : x = .string t := by
  unfold asS at hp
  split at hp
  · injection hp with hp; subst hp; exact h.vv.1
  · cases hp

theorem eqGuard_int (op : BinOp) (t : TypeId) (x y : Operand) (k k' : IntKind) (m n : Int) (w : World) : (eqGuard op t x y (.int k m) (.int k' n)).run P w = .ok () w := by
  unfold eqGuard; cases op <;> rfl
theorem eqGuard_str (op : BinOp) (t : TypeId) (x y : Operand) (m n : ByteArray) (w : World) : (eqGuard op t x y (.string m) (.string n)).run P w = .ok () w := by
  unfold eqGuard; cases op <;> rfl
theorem eqGuard_bool (op : BinOp) (t : TypeId) (x y : Operand) (m n : Bool) (w : World) : (eqGuard op t x y (.bool m) (.bool n)).run P w = .ok () w := by
  unfold eqGuard; cases op <;> rfl
theorem run_arith {op : BinOp} {t : TypeId} {k : IntKind} {x y : Int} {r : PV} (h : arith op k x y = some r) : ∃ v, r = .d (.v v) ∧ v.oneCell' = true ∧ (binOp op t (.int k x) (.int k y)).run P w = .ok v w := by
  cases op <;> simp only [arith] at h <;> first
    | (cases h; done)
    | (injection h with h; subst h; refine ⟨_, rfl, rfl, ?_⟩; simp [binOp, Op.intArith, Op.intCmp]; done)
    | (injection h with h; subst h; refine ⟨_, rfl, rfl, ?_⟩; simp [binOp, intBits_and, intBits_or, intBits_xor]; done)
    | (split at h
       · cases h
       · rename_i hy; injection h with h; subst h; refine ⟨_, rfl, rfl, ?_⟩; simp [binOp, Op.intDiv, hy]; done)
theorem run_shift {op : BinOp} {t : TypeId} {k k' : IntKind} {x y : Int} {r : PV} (h : shiftP op k x y = some r) : ∃ v, r = .d (.v v) ∧ v.oneCell' = true ∧ (binOp op t (.int k x) (.int k' y)).run P w = .ok v w := by
  unfold shiftP at h
  split at h
  · cases h
  · rename_i hy
    cases op <;> simp only at h <;> first
      | (cases h; done)
      | (injection h with h; subst h; refine ⟨_, rfl, rfl, ?_⟩; simp [binOp, Op.shift, hy])
theorem run_texts {op : BinOp} {t : TypeId} {x y : ByteArray} {r : PV} (h : texts op x y = some r) : ∃ v, r = .d (.v v) ∧ v.oneCell' = true ∧ (binOp op t (.string x) (.string y)).run P w = .ok v w := by
  cases op <;> simp only [texts] at h <;> first
    | (cases h; done)
    | (injection h with h; subst h; refine ⟨_, rfl, rfl, ?_⟩; simp [binOp, Op.stringOp]; done)
    | (split at h
       · rename_i hs
         injection h with h; subst h; refine ⟨_, rfl, rfl, ?_⟩
         have e : IntKind.i64.max = 9223372036854775807 := by decide
         have : (x.size : Int) + (y.size : Int) ≤ 9223372036854775807 := by omega
         simp [binOp, Op.stringOp, e, this]
       · cases h)
theorem run_truths {op : BinOp} {t : TypeId} (ht : P.underlying t = some .bool) {x y : Bool} {r : PV} (h : truths op x y = some r) : ∃ v, r = .d (.v v) ∧ v.oneCell' = true ∧ (binOp op t (.bool x) (.bool y)).run P w = .ok v w := by
  cases op <;> simp only [truths] at h <;> first
    | (cases h; done)
    | (injection h with h; subst h; refine ⟨_, rfl, rfl, ?_⟩; simp [binOp, run_equal_bool w t x y ht]; done)

theorem effEqS_ok {op : BinOp} {t : TypeId} {xv yv : Value} {p q r : PV} (hx : PRep ρ b w F xv p) (hy : PRep ρ b w F yv q) (h : effEqS P op t p q = some r) :
    ∃ v xs ys, xv = .agg xs ∧ yv = .agg ys ∧ r = .d (.v v) ∧ v.oneCell' = true ∧ (binOp op t (.agg xs) (.agg ys)).run P w = .ok v w ∧ P.eqGuardType P.depth t = false := by
  unfold effEqS at h
  split at h
  · rename_i cs ds l hl
    split at h
    · rename_i e he
      cases hx with
      | ag xs _ hlx h1x hrx =>
        cases hy with
        | ag ys _ hly h1y hry =>
          unfold eqTy at hl
          split at hl
          · rename_i hc
            simp only [Bool.and_eq_true, Bool.not_eq_true'] at hc
            have hX : Reps ρ b w F xs.toList cs := ⟨by simpa using hlx, fun j x c h2 h3 => hrx j x c (by simpa using h2) h3⟩
            have hY : Reps ρ b w F ys.toList ds := ⟨by simpa using hly, fun j x c h2 h3 => hry j x c (by simpa using h2) h3⟩
            have hk := leafs_ok 6 9994 t l xs.toList ys.toList cs ds e hl hX hY he (fun h => by rw [hc.1] at h; cases h)
            simp only [valOf, hc.1, if_true, Array.toArray_toList] at hk
            have heq : (Op.equal t (.agg xs) (.agg ys)).run P w = .ok e w := hk
            cases op <;> simp only [truths] at h <;> first
              | (cases h; done)
              | (injection h with h; subst h; refine ⟨_, xs, ys, rfl, rfl, rfl, rfl, ?_, hc.2⟩; simp [binOp, heq]; done)
          · cases hl
    · cases h
  · cases h
theorem effBin_ok {op : BinOp} {t : TypeId} {x y : Operand} {xv yv : Value} {p q r : PV} (hx : PRep ρ b w F xv p) (hy : PRep ρ b w F yv q) (h : effBin P op t p q = some r) :
    ∃ v, PRep ρ b w F v r ∧ (do eqGuard op t x y xv yv; binOp op t xv yv : Sem Value).run P w = .ok v w := by
  have fin : ∀ {v : Value}, r = .d (.v v) → v.oneCell' = true → (eqGuard op t x y xv yv).run P w = .ok () w → (binOp op t xv yv).run P w = .ok v w → ∃ v, PRep ρ b w F v r ∧ (do eqGuard op t x y xv yv; binOp op t xv yv : Sem Value).run P w = .ok v w := by
    rintro v rfl h1 h2 h3
    exact ⟨v, .lit h1, by simp [Sem.run_bind, h2, h3]⟩
  unfold effBin at h
  split at h
  · rename_i k m k' n h1 h2
    split at h
    · obtain rfl := asI_spec hx h1
      obtain rfl := asI_spec hy h2
      obtain ⟨v, h3, h4, h5⟩ := run_shift (P := P) (w := w) (t := t) (k' := k') h
      exact fin h3 h4 (eqGuard_int _ _ _ _ _ _ _ _ _) h5
    split at h
    · rename_i hk
      subst hk
      obtain rfl := asI_spec hx h1
      obtain rfl := asI_spec hy h2
      obtain ⟨v, h3, h4, h5⟩ := run_arith (P := P) (w := w) (t := t) h
      exact fin h3 h4 (eqGuard_int _ _ _ _ _ _ _ _ _) h5
    · cases h
  · split at h
    · rename_i m n h1 h2
      obtain rfl := asS_spec hx h1
      obtain rfl := asS_spec hy h2
      obtain ⟨v, h3, h4, h5⟩ := run_texts (P := P) (w := w) (t := t) h
      exact fin h3 h4 (eqGuard_str _ _ _ _ _ _ _) h5
    · split at h
      · rename_i m n h1 h2 h3
        obtain rfl := asB_spec hx h1
        obtain rfl := asB_spec hy h2
        obtain ⟨v, h3, h4, h5⟩ := run_truths (P := P) (w := w) h3 h
        exact fin h3 h4 (eqGuard_bool _ _ _ _ _ _ _) h5
      · obtain ⟨v, xs, ys, rfl, rfl, h3, h4, h5, h6⟩ := effEqS_ok (w := w) hx hy h
        exact fin h3 h4 (run_eqGuard_agg w op t x y xs ys h6) h5
theorem effUn_ok {op : UnOp} {xv : Value} {p r : PV} (hx : PRep ρ b w F xv p) (h : effUn op p = some r) : ∃ v, PRep ρ b w F v r ∧ (Op.unary op xv).run P w = .ok v w := by
  unfold effUn at h
  split at h
  · rw [Option.map_eq_some_iff] at h
    obtain ⟨t, h1, rfl⟩ := h
    obtain rfl := asB_spec hx h1
    exact ⟨_, .lit rfl, by simp [Op.unary]⟩
  · rw [Option.map_eq_some_iff] at h
    obtain ⟨⟨k, n⟩, h1, rfl⟩ := h
    obtain rfl := asI_spec hx h1
    exact ⟨_, .lit rfl, by simp [Op.unary, Op.intArith]⟩
  · cases h
theorem effConv_ok {src dst : TypeId} {xv : Value} {p r : PV} (hx : PRep ρ b w F xv p) (h : effConv P src dst p = some r) : ∃ v, PRep ρ b w F v r ∧ (convert src dst xv).run P w = .ok v w := by
  unfold effConv at h
  split at h
  · rename_i u k hu hk
    rw [Option.map_eq_some_iff] at h
    obtain ⟨⟨k', n⟩, h1, rfl⟩ := h
    obtain rfl := asI_spec hx h1
    refine ⟨_, .lit rfl, ?_⟩
    simp [convert, run_underlying hu, run_underlying hk, Conv.intToInt]
  · rename_i u hu hk
    rw [Option.map_eq_some_iff] at h
    obtain ⟨n, h1, rfl⟩ := h
    obtain rfl := asS_spec hx h1
    refine ⟨_, .lit rfl, ?_⟩
    simp [convert, run_underlying hu, run_underlying hk]
  · cases h
theorem fldsOf_spec {t : TypeId} {f off size : Nat} {agg : Bool} (h : (fldsOf P t)[f]? = some (off, size, agg)) : ∃ fs fd j, P.underlying t = some (.struct fs) ∧ fs[f]? = some fd ∧ fd.offset = off ∧ P.info? fd.type = some j ∧ j.size = size ∧ aggOf P fd.type = agg ∧ ∃ u, P.underlying fd.type = some u := by
  unfold fldsOf fldsO at h
  split at h
  · rename_i fs hu
    refine ⟨fs, ?_⟩
    cases hm : fs.toList.mapM (fldOf P) with
    | none => simp [hm] at h
    | some l =>
      rw [hm] at h
      simp only [Option.getD_some] at h
      have key : ∀ (l1 : List Field) (l2 : List (Nat × Nat × Bool)), l1.mapM (fldOf P) = some l2 → ∀ (f : Nat) (x : Nat × Nat × Bool), l2[f]? = some x → ∃ fd, l1[f]? = some fd ∧ fldOf P fd = some x := by
        intro l1
        induction l1 with
        | nil => intro l2 h f x hx; simp at h; subst h; simp at hx
        | cons a l1 ih =>
          intro l2 h f x hx
          simp only [List.mapM_cons, Option.bind_eq_bind, Option.pure_def] at h
          cases ha : fldOf P a with
          | none => simp [ha] at h
          | some y =>
            cases hr : l1.mapM (fldOf P) with
            | none => simp [ha, hr] at h
            | some rest =>
              simp [ha, hr] at h
              subst h
              cases f with
              | zero => simp at hx; subst hx; exact ⟨a, rfl, ha⟩
              | succ f => simp at hx; simpa using ih rest hr f x hx
      obtain ⟨fd, h1, h2⟩ := key _ _ hm f _ h
      unfold fldOf at h2
      cases hj : P.info? fd.type with
      | none => simp [hj] at h2
      | some j =>
        simp only [hj] at h2
        split at h2
        · rename_i hu2
          simp only [Option.some.injEq, Prod.mk.injEq] at h2
          exact ⟨fd, j, hu, by rw [← Array.getElem?_toList]; exact h1, h2.1, hj, h2.2.1, h2.2.2, Option.isSome_iff_exists.1 hu2⟩
        · cases h2
  · simp at h
theorem effFieldAddr_ok {t : TypeId} {f : Nat} {xv : Value} {p r : PV} (hx : PRep ρ b w F xv p) (h : effFieldAddr P t p f = some r) : ∃ v, PRep ρ b w F v r ∧ (Instr.fieldAt t xv f).run P w = .ok v w := by
  unfold effFieldAddr at h
  split at h
  · rename_i off size agg hf
    obtain ⟨fs, fd, j, hu, hfd, rfl, hj, rfl, _, _⟩ := fldsOf_spec hf
    split at h
    · cases h
    · rename_i hs
      have run : ∀ a : Addr, (Instr.fieldAt t (.pointer (some a)) f).run P w = .ok (.pointer (some (a.add fd.offset))) w := by
        intro a
        simp [Instr.fieldAt, run_underlying hu, hfd, Instr.sureAddr, fieldPlace, sizeOf, typeInfo, hj, hs]
      split at h
      · injection h with h
        subst h
        cases hx with
        | ptr _ _ g ty cs hb hρ =>
          exact ⟨_, .ptr _ _ g ty cs hb hρ, by rw [run, add_at]⟩
      · injection h with h
        subst h
        cases hx with
        | fe a cs us hF hcell hrep =>
          refine ⟨_, .fe (a.add fd.offset) _ (fun j => us (fd.offset + j)) (by rw [add_block]; exact hF) (fun j d hj => ?_) (fun j d hj => ?_), by rw [run]⟩
          · rw [List.getElem?_drop] at hj
            rw [Go.Deep.add_add]
            exact hcell _ d hj
          · rw [List.getElem?_drop] at hj
            exact hrep _ d hj
      · injection h with h
        subst h
        cases hx with
        | re _ _ _ _ a e k es hb hn hi hρ =>
          refine ⟨_, .re _ _ _ _ (a.add fd.offset) e k es hb hn hi (fun h => ?_), by rw [run]⟩
          obtain ⟨g, c, h1, h2⟩ := hρ h
          exact ⟨g, c, h1, by rw [h2, add_at, Nat.add_assoc]⟩
      · cases h
  · cases h
theorem isAgg_run {t : TypeId} {u : TypeDesc} (hu : P.underlying t = some u) : (isAgg t).run P w = .ok (aggOf P t) w := by
  unfold isAgg
  rw [Sem.run_bind, run_underlying hu w]
  unfold aggOf
  rw [hu]
  cases u <;> rfl
theorem packP_get {size : Nat} {agg : Bool} {xs : List Value} {cl : List PV} {r : PV} (hr : Reps ρ b w F xs cl) (h1 : ∀ x ∈ xs, x.oneCell' = true) (h : packP size agg cl = some r) :
    (agg = true ∧ size ≤ xs.length ∧ PRep ρ b w F (.agg (xs.take size).toArray) r) ∨ (agg = false ∧ ∃ x, xs[0]? = some x ∧ PRep ρ b w F x r) := by
  unfold packP at h
  split at h
  · rename_i ha
    split at h
    · rename_i hs
      injection h with h
      subst h
      have ht := hr.take size
      refine .inl ⟨ha, by rw [hr.len]; exact hs, .ag _ _ (by simpa using ht.len) (fun x hx => h1 x (List.mem_of_mem_take (by simpa using hx))) (fun j x c h2 h3 => ht.rep j x c (by simpa using h2) h3)⟩
    · cases h
  · rename_i ha
    cases cl with
    | nil => cases h
    | cons c cl =>
      injection h with h
      subst h
      cases xs with
      | nil => have := hr.len; simp at this
      | cons x xs => exact .inr ⟨by simpa using ha, x, rfl, hr.rep 0 x c rfl rfl⟩
theorem effField_ok {t : TypeId} {f : Nat} {xv : Value} {p r : PV} (hx : PRep ρ b w F xv p) (h : effField P t p f = some r) : ∃ v, PRep ρ b w F v r ∧ (Instr.field t xv f).run P w = .ok v w := by
  unfold effField at h
  split at h
  · rename_i off size agg cs hf
    obtain ⟨fs, fd, j, hu, hfd, rfl, hj, rfl, ha, u, hu2⟩ := fldsOf_spec hf
    cases hx with
    | ag xs _ hl h1 hr =>
      have R : Reps ρ b w F xs.toList cs := ⟨by simpa using hl, fun j x c h2 h3 => hr j x c (by simpa using h2) h3⟩
      have hp := packP_get (R.drop fd.offset) (fun x hx => h1 x (by simpa using List.mem_of_mem_drop hx)) h
      have key : ∀ u, P.underlying fd.type = some u → ∃ v, PRep ρ b w F v r ∧ (Instr.field t (.agg xs) f).run P w = .ok v w := by
        intro u hu2
        rcases hp with ⟨h2, h3, h4⟩ | ⟨h2, x, h3, h4⟩
        · refine ⟨_, h4, ?_⟩
          have e : (xs.extract fd.offset (fd.offset + j.size)) = ((xs.toList.drop fd.offset).take j.size).toArray := by
            apply Array.ext'
            simp [Array.toList_extract, List.extract]
          simp [Instr.field, run_underlying hu, hfd, asAgg, part, isAgg_run hu2, ha, h2, sizeOf, typeInfo, hj, e]
        · refine ⟨x, h4, ?_⟩
          rw [List.getElem?_drop, Nat.add_zero, Array.getElem?_toList] at h3
          simp [Instr.field, run_underlying hu, hfd, asAgg, part, isAgg_run hu2, ha, h2, h3]
      exact key u hu2
  · cases h
theorem effLoad_ok {t : TypeId} {xv : Value} {p r : PV} (hi : Inv w0 F0 ρ b w F) (hx : PRep ρ b w F xv p) (h : effLoad P b t p = some r) : ∃ v, PRep ρ b w F v r ∧ (Instr.loadAt t xv).run P w = .ok v w := by
  unfold effLoad at h
  split at h
  · rename_i i cl hi' hcl
    obtain ⟨j, z, u, hj, hz, hu, hzs, hs, hby, ha, _, _⟩ := tinf_spec hi'
    obtain ⟨a, rfl, us, hR, hc, h1⟩ := addrP_reads hi hx hcl
    rcases packP_get hR h1 h with ⟨h2, h3, h4⟩ | ⟨h2, x, h3, h4⟩
    · refine ⟨_, h4, ?_⟩
      have hl := run_loadCells_list (P := P) w a (us.take i.size) (fun j v hv => by
        rw [List.getElem?_take] at hv
        split at hv
        · exact hc j v hv
        · cases hv)
      rw [List.length_take, Nat.min_eq_left h3] at hl
      simp [Instr.loadAt, Instr.sureAddr, loadVar, isAgg_run hu, ← ha, h2, sizeOf, typeInfo, hj, hs, hl]
    · refine ⟨x, h4, ?_⟩
      have := hc 0 x h3
      have e : a.add 0 = a := by simp [Addr.add]
      rw [e] at this
      simp [Instr.loadAt, Instr.sureAddr, loadVar, isAgg_run hu, ← ha, h2, load, Sem.run, this]
  · cases h
theorem elem_of {t e : TypeId} (h : P.underlying t = some (.slice e)) : P.elem t = e := by unfold Program.elem; simp [h]
theorem effIndexAddr_ok {t : TypeId} {xv yv : Value} {p q r : PV} (hi : Inv w0 F0 ρ b w F) (hx : PRep ρ b w F xv p) (hy : PRep ρ b w F yv q) (h : effIndexAddr P b t p q = some r) : ∃ v, PRep ρ b w F v r ∧ (Instr.indexAt t xv yv).run P w = .ok v w := by
  unfold effIndexAddr at h
  split at h
  · rename_i e k i hu hq
    obtain rfl := asI_spec hy hq
    split at h
    · rename_i ie hie
      obtain ⟨j, z, u, hj, hz, hu2, hzs, hs, hby, ha, _, _⟩ := tinf_spec hie
      split at h
      · rename_i h0
        have run : ∀ (a : Addr) (n c : Nat), i.toNat < n → (Instr.indexAt t (.slice (some a) n c) (.int k i)).run P w = .ok (.pointer (some (a.add (i.toNat * ie.size)))) w := by
          intro a n c hlt
          rw [run_indexAt_slice w t a n c k i (by rw [elem_of hu]; exact hu), if_pos ⟨h0, by omega⟩, elem_of hu]
          simp [sizeOf, typeInfo, hj, hs, Result.andThen]
        split at h
        · rename_i es
          split at h
          · rename_i el hel
            split at h
            · rename_i hlen
              injection h with h
              subst h
              cases hx with
              | d _ _ hd =>
                cases hd with
                | sl A n c k' _ us hn hc hm hk hA _ hcell hrep =>
                  have hlt : i.toNat < n := by rw [hn]; exact (List.getElem?_eq_some_iff.1 hel).1
                  obtain ⟨a, rfl, hFa⟩ := hA (by omega)
                  have hk' : k' = ie.size := by rw [← hlen]; exact (hk el (List.mem_of_getElem? hel)).symm
                  refine ⟨_, .fe (a.add (i.toNat * ie.size)) el (fun j => us (i.toNat * ie.size + j)) (by rw [add_block]; exact hFa) (fun j d hd => ?_) (fun j d hd => ?_), run a n c hlt⟩
                  all_goals
                    have hj' : j < ie.size := by have := (List.getElem?_eq_some_iff.1 hd).1; omega
                    have hfl := flat_at ie.size es (fun e he => by rw [hk e he, hk']) i.toNat el hel j hj'
                    rw [hd] at hfl
                  · rw [Go.Deep.add_add]
                    exact hcell a _ d rfl hfl
                  · exact hrep _ d hfl
            · cases h
          · cases h
        · rename_i t' n
          split at h
          · rename_i e' k' es' hbx
            split at h
            · rename_i hc
              obtain ⟨rfl, hlt⟩ := hc
              injection h with h
              subst h
              cases hx with
              | row _ _ A c e2 k2 es2 hb hn hc hA hρ =>
                rw [hbx] at hb
                injection hb with hb
                injection hb with e1 e2 e3
                subst e1 e2 e3
                obtain ⟨a, rfl⟩ := hA (by omega)
                refine ⟨_, .re _ _ _ _ (a.add (i.toNat * ie.size)) _ _ _ hbx hn hlt (fun hl => ?_), run a n c hlt⟩
                have hr := hρ hl
                cases hi.box _ _ hbx with
                | gn _ _ _ hg => rw [hr] at hg; cases hg
                | rw _ _ _ xs hk0 ho hF hk hl' hrep =>
                  rw [hr] at ho
                  rcases ho.2 with ⟨h, _⟩ | ⟨g, cap, cur, h, _⟩
                  · cases h
                  · injection h with h _ _
                    injection h with h
                    subst h
                    exact ⟨g, c, hr, by rw [add_at, Nat.zero_add, Nat.add_zero]⟩
            · cases h
          · cases h
        · cases h
      · cases h
    · cases h
  · cases h
theorem effExtract_ok {i : Nat} {xv : Value} {p r : PV} (hx : PRep ρ b w F xv p) (h : effExtract p i = some r) : ∃ v, PRep ρ b w F v r ∧ (Instr.extract xv i).run P w = .ok v w := by
  unfold effExtract at h
  split at h
  · rename_i vs
    cases hx with
    | tup xs _ hl hr =>
      have hlt : i < xs.size := by rw [hl]; exact (List.getElem?_eq_some_iff.1 h).1
      exact ⟨xs[i], hr i _ _ (by simp [hlt]) h, by simp [Instr.extract, hlt]⟩
  · cases h
theorem effLen_ok {t ty : TypeId} {xv : Value} {p r : PV} (hx : PRep ρ b w F xv p) (h : effLen P t p = some r) : ∃ v, PRep ρ b w F v r ∧ (Builtin.len_ #[t] ty #[xv]).run P w = .ok v w := by
  unfold effLen at h
  split at h
  · rename_i e hu
    rw [Option.map_eq_some_iff] at h
    obtain ⟨n, h1, rfl⟩ := h
    obtain ⟨A, c, rfl⟩ := lenP_spec hx h1
    exact ⟨_, .lit rfl, by simp [Builtin.len_, run_underlying hu, goInt]⟩
  · rename_i hu
    rw [Option.map_eq_some_iff] at h
    obtain ⟨n, h1, rfl⟩ := h
    obtain rfl := asS_spec hx h1
    exact ⟨_, .lit rfl, by simp [Builtin.len_, run_underlying hu, goInt]⟩
  · cases h
end
end Go.Proofs.Ytjeeclabnimbbaa

/- The pure machine: new boxes, stores, literals, append, slices. -/
namespace Go.Proofs.Ytjeeclabnimbbaa
open Go.RowKit

/-- Each element has k cells. -/
def lenAll (k : Nat) (es : List (List D)) : Prop := ∀ e ∈ es, e.length = k
instance (k : Nat) (es : List (List D)) : Decidable (lenAll k es) := inferInstanceAs (Decidable (∀ e ∈ es, e.length = k))
/-- As many elements of so many bytes may be. -/
def small (n b : Nat) : Prop := n * b ≤ 140737488355328
instance (n b : Nat) : Decidable (small n b) := inferInstanceAs (Decidable (n * b ≤ 140737488355328))
theorem small_of {n b : Nat} (h : n ≤ 10000000) (hb : b ≤ 1000000) : small n b = True := by
  have : n * b ≤ 10000000 * 1000000 := Nat.mul_le_mul h hb
  exact eq_true (by unfold small; omega)
theorem lenAll_nil (k : Nat) : lenAll k [] = True := eq_true (by intro e he; cases he)
theorem lenAll_cons (k : Nat) (e : List D) (es : List (List D)) : lenAll k (e :: es) = (e.length = k ∧ lenAll k es) := by
  apply propext
  simp [lenAll]
theorem lenAll_append (k : Nat) (a b : List (List D)) : lenAll k (a ++ b) = (lenAll k a ∧ lenAll k b) := by
  apply propext
  unfold lenAll
  constructor
  · exact fun h => ⟨fun e he => h e (List.mem_append_left _ he), fun e he => h e (List.mem_append_right _ he)⟩
  · rintro ⟨h1, h2⟩ e he
    rcases List.mem_append.1 he with h | h
    · exact h1 e h
    · exact h2 e h
theorem lenAll_map {α : Type} {k : Nat} (f : α → List D) (h : ∀ x, (f x).length = k) (l : List α) : lenAll k (l.map f) = True :=
  eq_true (by intro e he; rw [List.mem_map] at he; obtain ⟨x, _, rfl⟩ := he; exact h x)
theorem lenAll_take {k : Nat} {es : List (List D)} (n : Nat) (h : lenAll k es) : lenAll k (es.take n) = True := eq_true (fun e he => h e (List.mem_of_mem_take he))
theorem lenAll_drop {k : Nat} {es : List (List D)} (n : Nat) (h : lenAll k es) : lenAll k (es.drop n) = True := eq_true (fun e he => h e (List.mem_of_mem_drop he))
def toD : PV → Option D | .d x => some (nrm x) | _ => none
def chunk (k : Nat) : Nat → List D → List (List D)
  | 0, _ => []
  | n + 1, l => l.take k :: chunk k n (l.drop k)
def fillP (place : Nat → Option (Nat × Nat)) : List PV → List (Nat × PV) → Option (List PV)
  | cs, [] => some cs
  | cs, (i, p) :: rest => match place i, cellsP p with
    | some (off, size), some ns => if ns.length = size ∧ off + ns.length ≤ cs.length then fillP place (splice cs off ns) rest else none
    | _, _ => none
def zerosP (i : TI) : List PV := i.zero.map fun x => .d (.v x)
def effAlloc (P : Program) (b : Nat → Option Box) (dst : Option Nat) (e : TypeId) : Option (PV × Option (Nat × Box)) :=
  match dst, tinf P e with
  | some t, some i => match b t with
    | none => some (.ptr t 0, some (t, .st e (zerosP i)))
    | some _ => none
  | _, _ => none
def effBox (b : Nat → Option Box) (dst : Option Nat) (e : TypeId) (p : PV) : Option (PV × Option (Nat × Box)) :=
  match dst, cellsP p with
  | some t, some cs => match b t with
    | none => some (.ptr t 0, some (t, .st e cs))
    | some _ => none
  | _, _ => none
def effBuild (P : Program) (t : TypeId) (parts : List (Nat × PV)) : Option PV :=
  match tinf P t, fldsO P t with
  | some i, some fl => (fillP (fun j => (fl[j]?).map fun x => (x.1, x.2.1)) (zerosP i) parts).map .ag
  | _, _ => none
def effBuildSlice (P : Program) (b : Nat → Option Box) (dst : Option Nat) (t : TypeId) (len : Nat) (parts : List (Nat × PV)) : Option (PV × Option (Nat × Box)) :=
  match dst, P.underlying t with
  | some d, some (.slice e) => match tinf P e, b d with
    | some i, none => if 0 < i.size ∧ len ≤ 1000 ∧ len * i.size ≤ 16777216 then
        match fillP (fun j => some (j * i.size, i.size)) (List.replicate len (zerosP i)).flatten parts with
        | some cs => match cs.mapM toD with
          | some ds => some (.row d len, some (d, .rw e i.size (chunk i.size len ds)))
          | none => none
        | none => none
      else none
    | _, _ => none
  | _, _ => none
def effStore (P : Program) (b : Nat → Option Box) (t : TypeId) (p q : PV) : Option (Nat × Box) :=
  match tinf P t, cellsP q with
  | some i, some ns => match p with
    | .ptr x off => match b x with
      | some (.st ty cs) => if ns.length = i.size ∧ off + ns.length ≤ cs.length then some (x, .st ty (splice cs off ns)) else none
      | _ => none
    | .re x n j off => match b x, ns.mapM toD with
      | some (.rw e k es), some ds => match es[j]? with
        | some el => if es.length = n ∧ ds.length = i.size ∧ off + ds.length ≤ el.length then some (x, .rw e k (es.set j (splice el off ds))) else none
        | none => none
      | _, _ => none
    | _ => none
  | _, _ => none
def effAppend (P : Program) (b : Nat → Option Box) (dst : Option Nat) (t : TypeId) (p q : PV) : Option (PV × Option (Nat × Box)) :=
  match P.underlying t, asSl b q with
  | some (.slice e), some es2 => match tinf P e with
    | some i => if 0 < i.size ∧ 0 < i.bytes ∧ lenAll i.size es2 then
        match p with
        | .row x n => match b x with
          | some (.rw e' k es) => if es.length = n ∧ e' = e ∧ k = i.size ∧ small (n + es2.length) i.bytes then some (.row x (n + es2.length), some (x, .rw e k (es ++ es2))) else none
          | _ => none
        | .d (.v (.slice none n c)) => if n = 0 ∧ c = 0 then (match dst with
            | some d => match b d with
              | none => if small es2.length i.bytes then some (.row d es2.length, some (d, .rw e i.size es2)) else none
              | some _ => none
            | none => none) else none
        | _ => none
      else none
    | none => none
  | _, _ => none

section
variable {P : Program} {ρ ρ' : Nat → Value} {b b' : Nat → Option Box} {w w' : World} {w0 : WM} {F F' F0 : Nat → Prop}

/-- An operation that yields v in w', and what then is. -/
def Got (P : Program) (w0 : WM) (F0 : Nat → Prop) (ρ : Nat → Value) (b : Nat → Option Box) (w : World) (F : Nat → Prop) (res : Result Value) (r : PV) (u : Option (Nat × Box)) : Prop :=
  ∃ v w' ρ', res = .ok v w' ∧ Inv w0 F0 ρ' (bupd b u) w' F ∧ Stp ρ b w F ρ' (bupd b u) w' F ∧ PRep ρ' (bupd b u) w' F v r
theorem Got.pure (hi : Inv w0 F0 ρ b w F) {res : Result Value} {r : PV} (h : ∃ v, PRep ρ b w F v r ∧ res = .ok v w) : Got P w0 F0 ρ b w F res r none := by
  obtain ⟨v, h1, h2⟩ := h
  exact ⟨v, w, ρ, h2, hi, Stp.refl _ _ _ _, h1⟩

theorem newSt {t e : Nat} {xs : Array Value} {cs : List PV} (hi : Inv w0 F0 ρ b w F) (ht : t < 1000000) (hb : b t = none) (hr : Reps ρ b w F xs.toList cs) (h1 : ∀ x ∈ xs, x.oneCell' = true) :
    Got P w0 F0 ρ b w F (.ok (.pointer (some ⟨w.heap.size, 0, none⟩)) (w.alloc (.cells xs e))) (.ptr t 0) (some (t, .st e cs)) := by
  have := Inv.new (t := t) (B := .st e cs) (v := .pointer (some ⟨w.heap.size, 0, none⟩)) (w' := w.alloc (.cells xs e)) hi ht hb (ext_alloc _ _) (fun g hg => by simp [blk] at hg; omega) (fun s => by
    have hrs := hr.mono s
    exact .st e cs w.heap.size xs (rupd_same _ _ _) (.inl hi.ext.size) (fun h => by have := hi.flt _ h; omega) (heap_alloc_new w _) (by simpa using hr.len) h1 (fun j x c h2 h3 => hrs.rep j x c (by simpa using h2) h3))
  exact ⟨_, _, _, rfl, this.1, this.2, .ptr t 0 w.heap.size e cs (bupd_same _ _ _) (rupd_same _ _ _)⟩
theorem zerosP_reps {i : TI} {z : Value} (hz : i.zero = z.cells.toList) (h1 : ∀ x ∈ i.zero, x.oneCell' = true) : Reps ρ b w F z.cells.toList (zerosP i) := by
  refine ⟨by rw [zerosP, hz]; simp, fun j x c h2 h3 => ?_⟩
  rw [zerosP, hz, List.getElem?_map, h2] at h3
  injection h3 with h3
  subst h3
  exact .d _ _ (.v x (h1 x (by rw [hz]; exact List.mem_of_getElem? h2)))
theorem effAlloc_ok {dst : Option Nat} {e : TypeId} {r : PV} {u : Option (Nat × Box)} (hd : ∀ d, dst = some d → d < 1000000) (hi : Inv w0 F0 ρ b w F) (h : effAlloc P b dst e = some (r, u)) : Got P w0 F0 ρ b w F ((Instr.alloc e true (.tuple #[])).run P w) r u := by
  unfold effAlloc at h
  split at h
  · rename_i t i hti
    obtain ⟨j, z, uu, hj, hz, hu, hzs, hs, hby, ha, hzz, h1⟩ := tinf_spec hti
    split at h
    · rename_i hb
      injection h with h
      injection h with e1 e2
      subst e1 e2
      have := newSt (P := P) (e := e) hi (hd _ rfl) hb (zerosP_reps (w := w) (F := F) hzz h1) (fun x hx => h1 x (by rw [hzz]; simpa using hx))
      have hrun : (Instr.alloc e true (.tuple #[])).run P w = .ok (.pointer (some ⟨w.heap.size, 0, none⟩)) (w.alloc (.cells z.cells e)) := by
        simp [Instr.alloc, zeroValue, typeInfo, hj, hz, newVar, newRow]
      rw [hrun]
      exact this
    · cases h
  · cases h
theorem effBox_ok {dst : Option Nat} {e : TypeId} {xv : Value} {p r : PV} {u : Option (Nat × Box)} (hd : ∀ d, dst = some d → d < 1000000) (hi : Inv w0 F0 ρ b w F) (hx : PRep ρ b w F xv p) (h : effBox b dst e p = some (r, u)) : Got P w0 F0 ρ b w F ((Instr.box e xv).run P w) r u := by
  unfold effBox at h
  split at h
  · rename_i t cs hcs
    obtain ⟨hr, h1⟩ := cellsP_reps hx hcs
    split at h
    · rename_i hb
      injection h with h
      injection h with e1 e2
      subst e1 e2
      have := newSt (P := P) (e := e) hi (hd _ rfl) hb hr (fun x hx => h1 x (by simpa using hx))
      have hrun : (Instr.box e xv).run P w = .ok (.pointer (some ⟨w.heap.size, 0, none⟩)) (w.alloc (.cells xv.cells e)) := by
        simp [Instr.box, newVar, newRow]
      rw [hrun]
      exact this
    · cases h
  · cases h

theorem fold_splice : ∀ (l : List Value) (off i : Nat) (cells : Array Value), off + i + l.length ≤ cells.size → (l.zipIdx i).foldl (fun cs (c, j) => cs.setIfInBounds (off + j) c) cells = (splice cells.toList (off + i) l).toArray
  | [], off, i, cells, _ => by simp [splice]
  | v :: l, off, i, cells, h => by
    simp only [List.length_cons] at h
    rw [List.zipIdx_cons, List.foldl_cons, fold_splice l off (i + 1) _ (by simp; omega)]
    congr 1
    have e := list_seg_step cells.toList (off + i) v l (by simp; omega)
    unfold splice
    rw [Array.toList_setIfInBounds, ← Nat.add_assoc]
    exact e
theorem fill_ok (place : Nat → Option (Nat × Nat)) : ∀ (vs : List (Nat × Value)) (ps : List (Nat × PV)) (cells : Array Value) (cs cs' : List PV), vs.length = ps.length →
    (∀ (j : Nat) v p, vs[j]? = some v → ps[j]? = some p → v.1 = p.1 ∧ PRep ρ b w F v.2 p.2) → Reps ρ b w F cells.toList cs → (∀ x ∈ cells, x.oneCell' = true) → fillP place cs ps = some cs' →
    ∃ cells', Instr.fill place cells vs = some cells' ∧ Reps ρ b w F cells'.toList cs' ∧ (∀ x ∈ cells', x.oneCell' = true) ∧ cells'.size = cells.size
  | [], [], cells, cs, cs', _, _, hr, h1, h => by
    injection h with h
    subst h
    exact ⟨cells, rfl, hr, h1, rfl⟩
  | [], _ :: _, _, _, _, hl, _, _, _, _ => by simp at hl
  | _ :: _, [], _, _, _, hl, _, _, _, _ => by simp at hl
  | (i, v) :: vs, (i', p) :: ps, cells, cs, cs', hl, hp, hr, h1, h => by
    obtain ⟨e, hv⟩ := hp 0 _ _ rfl rfl
    simp only at e hv
    subst e
    simp only [fillP] at h
    split at h
    · rename_i off size ns hpl hns
      split at h
      · rename_i hc
        obtain ⟨hc1, hc2⟩ := hc
        obtain ⟨hrn, h1n⟩ := cellsP_reps hv hns
        have hsz : v.cells.size = size := by have := hrn.len; simp at this; omega
        have hcs : cs.length = cells.size := by have := hr.len; simp at this; omega
        have hfit : ¬ (v.cells.size ≠ size ∨ off + v.cells.size > cells.size) := by omega
        have hfold : v.cells.zipIdx.foldl (fun cs (c, j) => cs.setIfInBounds (off + j) c) cells = (splice cells.toList off v.cells.toList).toArray := by
          have := fold_splice v.cells.toList off 0 cells (by simp; omega)
          rw [Nat.add_zero] at this
          rw [← this, ← Array.foldl_toList]
          simp
        obtain ⟨cells', h2, h3, h4, h5⟩ := fill_ok place vs ps (splice cells.toList off v.cells.toList).toArray (splice cs off ns) cs' (by simpa using hl) (fun j v p h2 h3 => hp (j + 1) v p (by simpa using h2) (by simpa using h3)) (by simpa using hr.splice hrn off)
          (fun x hx => one_splice (xs := cells.toList) (fun y hy => h1 y (by simpa using hy)) h1n off x (by simpa using hx)) h
        refine ⟨cells', ?_, h3, h4, ?_⟩
        · simp only [Instr.fill, hpl]
          rw [if_neg (by simpa using hfit), hfold]
          exact h2
        · rw [h5]
          have := splice_len (cs := cells.toList) (ns := v.cells.toList) (off := off) (by simp; omega)
          simpa using this
      · cases h
    · cases h
theorem parts_rep {a : Act} {s : PS} (h : ∀ x, PRep ρ s.b w F (a.eval x) (ev s x)) (parts : Array (Nat × Operand)) : (parts.map fun (i, x) => (i, a.eval x)).toList.length = (parts.toList.map fun (i, x) => (i, ev s x)).length ∧
    ∀ (j : Nat) v p, (parts.map fun (i, x) => (i, a.eval x)).toList[j]? = some v → (parts.toList.map fun (i, x) => (i, ev s x))[j]? = some p → v.1 = p.1 ∧ PRep ρ s.b w F v.2 p.2 := by
  refine ⟨by simp, fun j v p h1 h2 => ?_⟩
  rw [Array.toList_map, List.getElem?_map] at h1
  rw [List.getElem?_map] at h2
  cases hj : parts.toList[j]? with
  | none => rw [hj] at h1; cases h1
  | some y =>
    rw [hj] at h1 h2
    injection h1 with h1
    injection h2 with h2
    subst h1 h2
    exact ⟨rfl, h _⟩
theorem places_of {t : TypeId} {fl : List (Nat × Nat × Bool)} (h : fldsO P t = some fl) : ∃ fs, P.underlying t = some (.struct fs) ∧ fs.toList.mapM (fun f => (P.info? f.type).map fun i => (f.offset, i.size)) = some (fl.map fun x => (x.1, x.2.1)) := by
  unfold fldsO at h
  split at h
  · rename_i fs hu
    refine ⟨fs, hu, ?_⟩
    have key : ∀ (l1 : List Field) (l2 : List (Nat × Nat × Bool)), l1.mapM (fldOf P) = some l2 → l1.mapM (fun f => (P.info? f.type).map fun i => (f.offset, i.size)) = some (l2.map fun x => (x.1, x.2.1)) := by
      intro l1
      induction l1 with
      | nil => intro l2 h; simp at h; subst h; simp
      | cons a l1 ih =>
        intro l2 h
        simp only [List.mapM_cons, Option.bind_eq_bind, Option.pure_def] at h
        cases ha : fldOf P a with
        | none => simp [ha] at h
        | some y =>
          cases hr : l1.mapM (fldOf P) with
          | none => simp [ha, hr] at h
          | some rest =>
            simp [ha, hr] at h
            subst h
            have hy : (P.info? a.type).map (fun i => (a.offset, i.size)) = some (y.1, y.2.1) := by
              unfold fldOf at ha
              cases hj : P.info? a.type with
              | none => simp [hj] at ha
              | some j =>
                simp only [hj] at ha
                split at ha
                · injection ha with ha
                  subst ha
                  rfl
                · cases ha
            simp only [List.mapM_cons, Option.bind_eq_bind, Option.pure_def, hy, ih rest hr, Option.bind_some, List.map_cons]
    exact key _ _ h
  · cases h
theorem effBuild_ok {t : TypeId} {vs : Array (Nat × Value)} {ps : List (Nat × PV)} {r : PV} (hl : vs.toList.length = ps.length) (hp : ∀ (j : Nat) v p, vs.toList[j]? = some v → ps[j]? = some p → v.1 = p.1 ∧ PRep ρ b w F v.2 p.2)
    (h : effBuild P t ps = some r) : ∃ v, PRep ρ b w F v r ∧ (Instr.build t vs).run P w = .ok v w := by
  unfold effBuild at h
  split at h
  · rename_i i fl hti hfl
    obtain ⟨j, z, uu, hj, hz, hu, hzs, hs, hby, ha, hzz, h1⟩ := tinf_spec hti
    obtain ⟨fs, hfs, hpl⟩ := places_of hfl
    rw [Option.map_eq_some_iff] at h
    obtain ⟨cs', h2, rfl⟩ := h
    obtain ⟨cells', h3, h4, h5, _⟩ := fill_ok _ vs.toList ps z.cells (zerosP i) cs' hl hp (zerosP_reps hzz h1) (fun x hx => h1 x (by rw [hzz]; simpa using hx)) h2
    refine ⟨.agg cells', .ag _ _ (by simpa using h4.len) h5 (fun j x c h6 h7 => h4.rep j x c (by simpa using h6) h7), run_build w t vs cells' ?_⟩
    unfold Program.built
    simp only [hj, hfs, hz, hpl]
    have e : (fun (x : Nat) => (fl.map fun (x : Nat × Nat × Bool) => (x.1, x.2.1)).toArray[x]?) = fun (j : Nat) => (fl[j]?).map fun (x : Nat × Nat × Bool) => (x.1, x.2.1) := by
      funext j; simp
    rw [e]
    exact h3
  · cases h
end
end Go.Proofs.Ytjeeclabnimbbaa

/- The pure machine: slice literals, stores, append, slice expressions. -/
namespace Go.Proofs.Ytjeeclabnimbbaa
open Go.RowKit

def optI : Option PV → Nat → Option Nat
  | none, n => some n
  | some p, _ => match asI p with
    | some (_, i) => if 0 ≤ i then some i.toNat else none
    | none => none
def effSlice (P : Program) (b : Nat → Option Box) (t : TypeId) (p : PV) (lo hi : Option PV) : Option PV :=
  match P.underlying t with
  | some (.slice e) => match tinf P e, p with
    | some i, .d _ => match asSl b p with
      | some es => match optI lo 0, optI hi es.length with
        | some l, some h => if l ≤ h ∧ h ≤ es.length ∧ lenAll i.size es then some (.d (.sl ((es.drop l).take (h - l)))) else none
        | _, _ => none
      | none => none
    | some i, .row t n => match b t with
      | some (.rw _ k es) => match optI lo 0, optI hi n with
        | some l, some h => if es.length = n ∧ k = i.size ∧ l ≤ h ∧ h ≤ n then some (.vw t n l h) else none
        | _, _ => none
      | _ => none
    | _, _ => none
  | some .string => match asS p with
    | some s => match optI lo 0, optI hi s.size with
      | some l, some h => if l ≤ h ∧ h ≤ s.size then some (.d (.v (.string (s.extract l h)))) else none
      | _, _ => none
    | none => none
  | _ => none
def effMin (p q : PV) : Option PV := match asI p, asI q with
  | some (k, x), some (_, y) => some (.d (.v (.int k (if y < x then y else x))))
  | _, _ => none
def effMax (p q : PV) : Option PV := match asI p, asI q with
  | some (k, x), some (_, y) => some (.d (.v (.int k (if y > x then y else x))))
  | _, _ => none
def effMinL : PV → List PV → Option PV
  | p, [] => some p
  | p, q :: qs => match effMin p q with
    | some r => effMinL r qs
    | none => none
def effMaxL : PV → List PV → Option PV
  | p, [] => some p
  | p, q :: qs => match effMax p q with
    | some r => effMaxL r qs
    | none => none

section
variable {P : Program} {ρ ρ' : Nat → Value} {b b' : Nat → Option Box} {w w' : World} {w0 : WM} {F F' F0 : Nat → Prop}

theorem chunk_len (k : Nat) : ∀ (n : Nat) (l : List D), (chunk k n l).length = n
  | 0, _ => rfl
  | n + 1, l => by simp [chunk, chunk_len k n]
theorem chunk_each (k : Nat) : ∀ (n : Nat) (l : List D), l.length = n * k → ∀ x ∈ chunk k n l, x.length = k
  | 0, _, _, x, h => by simp [chunk] at h
  | n + 1, l, hl, x, h => by
    rw [Nat.succ_mul] at hl
    simp only [chunk, List.mem_cons] at h
    rcases h with rfl | h
    · simp; omega
    · exact chunk_each k n (l.drop k) (by simp; omega) x h
theorem chunk_flat (k : Nat) : ∀ (n : Nat) (l : List D), l.length = n * k → (chunk k n l).flatten = l
  | 0, l, h => by
    have : l = [] := List.eq_nil_of_length_eq_zero (by omega)
    subst this; rfl
  | n + 1, l, h => by
    rw [Nat.succ_mul] at h
    simp only [chunk, List.flatten_cons]
    rw [chunk_flat k n (l.drop k) (by simp; omega), List.take_append_drop]
theorem mapM_toD : ∀ (cs : List PV) (ds : List D), cs.mapM toD = some ds → cs.length = ds.length ∧ ∀ (j : Nat) d, ds[j]? = some d → ∃ x, cs[j]? = some (.d x) ∧ d = nrm x
  | [], ds, h => by simp at h; subst h; exact ⟨rfl, fun j d h => by simp at h⟩
  | c :: cs, ds, h => by
    simp only [List.mapM_cons, Option.bind_eq_bind, Option.pure_def] at h
    cases hc : toD c with
    | none => simp [hc] at h
    | some x =>
      cases hr : cs.mapM toD with
      | none => simp [hc, hr] at h
      | some rest =>
        simp [hc, hr] at h
        subst h
        obtain ⟨h1, h2⟩ := mapM_toD cs rest hr
        unfold toD at hc
        split at hc
        · rename_i y
          injection hc with hc
          subst hc
          refine ⟨by simp [h1], fun j d hj => ?_⟩
          cases j with
          | zero => simp at hj; subst hj; exact ⟨y, rfl, rfl⟩
          | succ j => simp at hj; simpa using h2 j d hj
        · cases hc
theorem zeros_flat {z : Array Value} {k n : Nat} (hz : z.size = k) : ((Array.range (n * k)).map (z[· % z.size]!)).toList = (List.replicate n z.toList).flatten := by
  apply List.ext_getElem?
  intro j
  have hf : (List.replicate n z.toList).flatten.length = n * k := by
    rw [flat_length k _ (fun e he => by rw [List.eq_of_mem_replicate he]; simpa using hz)]; simp
  by_cases hj : j < n * k
  · have hk : 0 < k := by
      rcases Nat.eq_zero_or_pos k with h | h
      · rw [h] at hj; omega
      · exact h
    have h1 : j / k < n := by rw [Nat.div_lt_iff_lt_mul hk]; exact hj
    have h2 := flat_at k (List.replicate n z.toList) (fun e he => by rw [List.eq_of_mem_replicate he]; simpa using hz) (j / k) z.toList (by rw [List.getElem?_replicate, if_pos h1]) (j % k) (Nat.mod_lt _ hk)
    rw [show j / k * k + j % k = j by rw [Nat.mul_comm]; exact Nat.div_add_mod j k] at h2
    rw [h2]
    have h3 : j % z.size < z.size := by rw [hz]; exact Nat.mod_lt _ hk
    have h4 : (Array.range (n * k))[j]? = some j := by simp [hj]
    rw [← Array.getElem?_toList] at h4
    rw [Array.toList_map, List.getElem?_map, h4, ← hz]
    simp [h3]
  · rw [List.getElem?_eq_none (by simp; omega), List.getElem?_eq_none (by omega)]
theorem Reps.flat {xs : List Value} {cs : List PV} (h : Reps ρ b w F xs cs) : ∀ n, Reps ρ b w F (List.replicate n xs).flatten (List.replicate n cs).flatten
  | 0 => .nil
  | n + 1 => by simp only [List.replicate_succ, List.flatten_cons]; exact h.append (Reps.flat h n)

/-- A new row of the call's own. -/
theorem newRw {t e k : Nat} {es : List (List D)} {xs : List Value} {v : Value} {w' : World} (hi : Inv w0 F0 ρ b w F) (ht : t < 1000000) (hb : b t = none) (hk0 : 0 < k) (hx : Ext w w') (hv : ∀ g, blk v = some g → w.heap.size ≤ g)
    (ho : w'.ownsRow 0 e k v es.length xs) (hk : ∀ x ∈ es, x.length = k) (hl : xs.length = es.flatten.length) (hr : ∀ (j : Nat) x d, xs[j]? = some x → es.flatten[j]? = some d → DRep w F x d) :
    Got P w0 F0 ρ b w F (.ok v w') (.row t es.length) (some (t, .rw e k es)) := by
  have := Inv.new (t := t) (B := .rw e k es) (v := v) (w' := w') hi ht hb hx hv (fun s => by
    refine .rw e k es xs hk0 (by rw [rupd_same]; exact ho) (fun g hg => ?_) hk hl (fun j x d h1 h2 => (hr j x d h1 h2).mono s.hF s.hw) (fun g hg => .inl (Nat.le_trans hi.ext.size (hv g (by rw [rupd_same] at hg; exact hg))))
    rw [rupd_same] at hg
    intro h
    have := hi.flt g h
    have := hv g hg
    omega)
  refine ⟨v, w', _, rfl, this.1, this.2, ?_⟩
  rcases ho.2 with ⟨rfl, h0⟩ | ⟨g, cap, cur, rfl, _, _, hc, _⟩
  · rw [h0]
    exact .row t 0 none 0 e k es (bupd_same _ _ _) (by omega) (Nat.le_refl _) (fun h => by omega) (fun _ => rupd_same _ _ _)
  · exact .row t es.length _ cap e k es (bupd_same _ _ _) (Nat.le_refl _) hc (fun _ => ⟨_, rfl⟩) (fun _ => rupd_same _ _ _)
theorem effBuildSlice_ok {dst : Option Nat} {t : TypeId} {len : Nat} {vs : Array (Nat × Value)} {ps : List (Nat × PV)} {r : PV} {u : Option (Nat × Box)} (hd : ∀ d, dst = some d → d < 1000000) (hi : Inv w0 F0 ρ b w F) (hl : vs.toList.length = ps.length) (hp : ∀ (j : Nat) v p, vs.toList[j]? = some v → ps[j]? = some p → v.1 = p.1 ∧ PRep ρ b w F v.2 p.2)
    (h : effBuildSlice P b dst t len ps = some (r, u)) : Got P w0 F0 ρ b w F ((Instr.buildSlice t len vs).run P w) r u := by
  unfold effBuildSlice at h
  split at h
  · rename_i d e hu
    split at h
    · rename_i i hti hb
      obtain ⟨j, z, uu, hj, hz, hu2, hzs, hs, hby, ha, hzz, h1⟩ := tinf_spec hti
      split at h
      · rename_i hc
        obtain ⟨hk0, hlen, hsm⟩ := hc
        split at h
        · rename_i cs hfill
          split at h
          · rename_i ds hds
            injection h with h
            injection h with e1 e2
            subst e1 e2
            have hzl : ∀ x ∈ z.cells, x.oneCell' = true := fun x hx => h1 x (by rw [hzz]; simpa using hx)
            obtain ⟨cells', h3, h4, h5, h6⟩ := fill_ok (ρ := ρ) (b := b) (w := w) (F := F) (fun j => some (j * i.size, i.size)) vs.toList ps ((Array.range (len * i.size)).map (z.cells[· % z.cells.size]!)) (List.replicate len (zerosP i)).flatten cs hl hp
              (by rw [zeros_flat hzs]; exact (zerosP_reps hzz h1).flat len) (fun x hx => by
                have hx2 : x ∈ (List.replicate len z.cells.toList).flatten := by rw [← zeros_flat hzs]; simpa using hx
                rw [List.mem_flatten] at hx2
                obtain ⟨l, hl1, hl2⟩ := hx2
                rw [List.eq_of_mem_replicate hl1] at hl2
                exact hzl x (by simpa using hl2)) hfill
            have hcs := mapM_toD cs ds hds
            have hsz : cells'.size = len * i.size := by rw [h6]; simp
            have hdl : ds.length = len * i.size := by have := h4.len; rw [hcs.1] at this; simp at this; omega
            have hrun : (Instr.buildSlice t len vs).run P w = .ok (.slice (some ⟨w.heap.size, 0, none⟩) len len) (w.alloc (.cells cells' e)) := by
              by_cases h0 : len * i.size = 0
              · have hf : Instr.fill (fun i_1 => some (i_1 * i.size, i.size)) #[] vs.toList = some cells' := by
                  have : (Array.range (len * i.size)).map (z.cells[· % z.cells.size]!) = #[] := by rw [h0]; simp
                  rw [this] at h3
                  exact h3
                have hl0 : len = 0 := by
                  rcases Nat.eq_zero_or_pos len with h | h
                  · exact h
                  · have := Nat.mul_pos h hk0; omega
                subst hl0
                have hr0 : Array.range 0 = #[] := by apply Array.ext' ; simp
                simp [Instr.buildSlice, run_underlying hu, sizeOf, typeInfo, hj, hs, hf, newRow, hr0]
              · exact run_buildSlice w t e len vs cells' j z hu hj hz (by rw [hs]; omega) (by rw [hs]; exact h0) (by rw [hs]; exact h3)
            rw [hrun]
            have hcl := chunk_len i.size len ds
            have hown : (w.alloc (.cells cells' e)).ownsRow 0 e i.size (.slice (some ⟨w.heap.size, 0, none⟩) len len) len cells'.toList := World.ownsRow_lit w cells' len (Nat.zero_le _) (by simp [maxLen]; omega) hsz
            have := newRw (P := P) (t := d) (e := e) (k := i.size) (es := chunk i.size len ds) (xs := cells'.toList) (v := .slice (some ⟨w.heap.size, 0, none⟩) len len) (w' := w.alloc (.cells cells' e)) hi (hd _ rfl) hb hk0 (ext_alloc _ _) (fun g hg => by simp [blk] at hg; omega)
              (by rw [hcl]; exact hown) (chunk_each _ _ _ hdl) (by rw [chunk_flat _ _ _ hdl]; simp; omega) (fun j x dd h7 h8 => by
                rw [chunk_flat _ _ _ hdl] at h8
                obtain ⟨y, h9, rfl⟩ := hcs.2 j dd h8
                have := h4.rep j x (.d y) h7 h9
                cases this with
                | d _ _ h => exact h.nrm)
            rw [hcl] at this
            exact this
          · cases h
        · cases h
      · cases h
    · cases h
  · cases h
theorem splice_map {α β : Type} (f : α → β) (cs ns : List α) (off : Nat) : (splice cs off ns).map f = splice (cs.map f) off (ns.map f) := by
  simp [splice, List.map_take, List.map_drop]
theorem splice_take {α : Type} (c v : List α) (o n : Nat) (h : o + v.length ≤ n) (hc : n ≤ c.length) : (splice c o v).take n = splice (c.take n) o v := by
  unfold splice
  have e1 : (c.take o ++ v).length = o + v.length := by simp; omega
  rw [List.take_append, List.take_of_length_le (by omega), e1, List.drop_take, List.take_take, Nat.min_eq_left (by omega)]
theorem splice_right {α : Type} (x F ds : List α) (o : Nat) : splice (x ++ F) (x.length + o) ds = x ++ splice F o ds := by
  unfold splice
  rw [List.take_append, List.drop_append, List.take_of_length_le (by omega), List.drop_eq_nil_of_le (by omega), Nat.add_sub_cancel_left, show x.length + o + ds.length - x.length = o + ds.length by omega]
  simp [List.append_assoc]
theorem splice_left {α : Type} (x F ds : List α) (o : Nat) (h : o + ds.length ≤ x.length) : splice (x ++ F) o ds = splice x o ds ++ F := by
  unfold splice
  rw [List.take_append_of_le_length (by omega), List.drop_append_of_le_length (by omega)]
  simp [List.append_assoc]
theorem flat_set {α : Type} (k : Nat) : ∀ (es : List (List α)) (_ : ∀ e ∈ es, e.length = k) (j off : Nat) (el ds : List α), es[j]? = some el → off + ds.length ≤ k → (es.set j (splice el off ds)).flatten = splice es.flatten (j * k + off) ds
  | [], _, j, off, el, ds, h, _ => by simp at h
  | x :: es, hk, 0, off, el, ds, h, hd => by
    simp at h
    subst h
    have hx := hk x (by simp)
    rw [List.set_cons_zero, List.flatten_cons, List.flatten_cons, Nat.zero_mul, Nat.zero_add, splice_left _ _ _ _ (by omega)]
  | x :: es, hk, j + 1, off, el, ds, h, hd => by
    simp at h
    have hx := hk x (by simp)
    have ih := flat_set k es (fun e he => hk e (by simp [he])) j off el ds h hd
    rw [List.set_cons_succ, List.flatten_cons, List.flatten_cons, ih, show (j + 1) * k + off = x.length + (j * k + off) by rw [Nat.succ_mul, hx]; omega, splice_right]
theorem storeRe_ok {t : TypeId} {x n j off e k : Nat} {es : List (List D)} {el ds : List D} {i : TI} {xv yv : Value} {ns : List PV} {q : PV} (hti : tinf P t = some i) (hi : Inv w0 F0 ρ b w F) (hx : PRep ρ b w F xv (.re x n j off)) (hy : PRep ρ b w F yv q) (hns : cellsP q = some ns)
    (hb : b x = some (.rw e k es)) (hds : ns.mapM toD = some ds) (hel : es[j]? = some el) (hlen : es.length = n) (hsz : ds.length = i.size) (hfit : off + ds.length ≤ el.length) :
    ∃ w', (Instr.storeAt t xv yv).run P w = .ok () w' ∧ Inv w0 F0 ρ (bupd b (some (x, .rw e k (es.set j (splice el off ds))))) w' F ∧ Stp ρ b w F ρ (bupd b (some (x, .rw e k (es.set j (splice el off ds))))) w' F := by
  obtain ⟨jj, z, uu, hj, hz, hu, hzs, hs, hby, ha, hzz, h1⟩ := tinf_spec hti
  obtain ⟨hr, h1y⟩ := cellsP_reps hy hns
  obtain ⟨hml, hmd⟩ := mapM_toD ns ds hds
  cases hx with
  | re _ _ _ _ a e1 k1 es1 hb1 hn1 hi1 hρ1 =>
    rw [hb] at hb1
    injection hb1 with hb1
    injection hb1 with q1 q2 q3
    subst q1 q2 q3
    obtain ⟨g, c, hρ, rfl⟩ := hρ1 hlen
    have hbx := hi.box x _ hb
    cases hbx with
    | gn _ _ _ hg => rw [hρ] at hg; cases hg
    | rw _ _ _ xs hk0 ho hF hk hl hrx hown =>
      have hFg : ¬ F g := hF g (by rw [hρ]; rfl)
      have hown0 : w0.own g := hown g (by rw [hρ]; rfl)
      have ho' := ho
      rw [hρ] at ho'
      rcases ho'.2 with ⟨h', _⟩ | ⟨g', cap', cur, h', hbase, hg, hnc, hcm, hcs, htake⟩
      · cases h'
      · injection h' with h2 h3 h4
        injection h2 with h2
        injection h2 with h2
        subst h2 h4
        have hek : el.length = k := hk el (List.mem_of_getElem? hel)
        have hvl : yv.cells.toList.length = ds.length := by rw [hr.len, hml]
        have hjk : j * k + k ≤ es.length * k := by
          have : (j + 1) * k ≤ es.length * k := Nat.mul_le_mul_right _ (by omega)
          rw [Nat.succ_mul] at this; exact this
        have hck : es.length * k ≤ cur.size := by rw [hcs]; exact Nat.mul_le_mul_right _ hnc
        have hfl : es.flatten.length = es.length * k := flat_length k es hk
        have hst := run_storeCells_at P g (j * k + off) e yv.cells.toList 0 cur w hg (by omega) h1y
        have e0 : (List.take (j * k + off + 0) cur.toList ++ yv.cells.toList ++ List.drop (j * k + off + 0 + yv.cells.toList.length) cur.toList) = splice cur.toList (j * k + off) yv.cells.toList := by simp [splice]
        rw [e0] at hst
        have hsz2 : yv.cells.size = i.size := by have := hvl; simp at this; omega
        have hR : Reps ρ b w F xs (es.flatten.map .d) := ⟨by rw [List.length_map]; exact hl, fun p u d h5 h6 => by
          rw [List.getElem?_map, Option.map_eq_some_iff] at h6
          obtain ⟨d', h6, rfl⟩ := h6
          exact .d _ _ (hrx p u d' h5 h6)⟩
        have hV : Reps ρ b w F yv.cells.toList (ds.map .d) := ⟨by rw [List.length_map]; exact hvl, fun p u d h5 h6 => by
          rw [List.getElem?_map, Option.map_eq_some_iff] at h6
          obtain ⟨d', h6, rfl⟩ := h6
          obtain ⟨x', h7, rfl⟩ := hmd p d' h6
          have h8 := hr.rep p u _ h5 h7
          cases h8 with
          | d _ _ h9 => exact .d _ _ h9.nrm⟩
        have hSp := hR.splice hV (j * k + off)
        rw [← splice_map, ← flat_set k es hk j off el ds hel (by omega)] at hSp
        have hkk : ∀ y ∈ es.set j (splice el off ds), y.length = k := fun y hy => by
          rcases List.mem_or_eq_of_mem_set hy with h | rfl
          · exact hk y h
          · rw [splice_len (by omega)]; exact hek
        have hstp : Stp ρ b w F ρ (bupd b (some (x, .rw e k (es.set j (splice el off ds))))) (w.setRow g (splice cur.toList (j * k + off) yv.cells.toList).toArray) F := by
          refine ⟨fun _ h => h, fun p hp => setRow_other w g p _ (fun h => hFg (h ▸ hp)), fun t' ty' cs' h => ?_, fun t' e' k' es' h => ?_⟩
          · have h' : t' ≠ x := fun h' => by rw [h', hb] at h; cases h
            rw [bupd_ne _ _ h']; exact ⟨⟨_, _, h⟩, rfl⟩
          · by_cases h' : t' = x
            · subst h'
              rw [hb] at h
              injection h with h
              injection h with q1 q2 q3
              subst q1 q2 q3
              rw [bupd_same]
              exact ⟨_, _, rfl, by simp, fun _ => rfl⟩
            · rw [bupd_ne _ _ h']; exact ⟨e', es', h, Nat.le_refl _, fun _ => rfl⟩
        refine ⟨w.setRow g (splice cur.toList (j * k + off) yv.cells.toList).toArray, ?_, ?_, hstp⟩
        · simp [Instr.storeAt, Instr.sureAddr, storeVar, sizeOf, typeInfo, hj, hs, hsz2, hst]
        · have hs2 := hstp
          rw [← rupd_self ρ x] at hstp
          have := Inv.turn (v := ρ x) (B' := .rw e k (es.set j (splice el off ds))) (w' := w.setRow g (splice cur.toList (j * k + off) yv.cells.toList).toArray) hi hb (by rw [rupd_self] at hstp ⊢; exact hs2)
            (hi.ext.step rfl rfl rfl (by simp) fun p hp hM => setRow_other w g p _ (fun h => not_own hp hM (h ▸ hown0))) (by simp) (fun p _ hp => setRow_other w g p _ (fun h => hp (by rw [hρ, h]; rfl))) (fun p hp => .inl hp) ?_
          · rw [rupd_self] at this; exact this
          · rw [rupd_self]
            have hsp := hSp.mono hs2
            refine .rw e k _ (splice xs (j * k + off) yv.cells.toList) hk0 ?_ hF hkk ?_ (fun p u d h5 h6 => ?_) hown
            · rw [hρ]
              refine ⟨by rw [splice_len (by rw [hl]; omega), List.length_set]; exact ho.1, .inr ⟨g, c, (splice cur.toList (j * k + off) yv.cells.toList).toArray, by rw [List.length_set, hlen], hbase, setRow_heap w g cur _ e _ hg, by rw [List.length_set]; exact hnc, hcm, ?_, ?_⟩⟩
              · rw [List.size_toArray, splice_len (by simp; omega)]; simpa using hcs
              · rw [List.length_set, splice_take _ _ _ _ (by omega) (by simpa using hck), htake]
            · have := hsp.len; rw [List.length_map] at this; exact this
            · have := hsp.rep p u (.d d) h5 (by rw [List.getElem?_map, h6]; rfl)
              cases this with
              | d _ _ h9 => exact h9
theorem effStore_ok {t : TypeId} {xv yv : Value} {p q : PV} {u : Nat × Box} (hi : Inv w0 F0 ρ b w F) (hx : PRep ρ b w F xv p) (hy : PRep ρ b w F yv q) (h : effStore P b t p q = some u) :
    ∃ w', (Instr.storeAt t xv yv).run P w = .ok () w' ∧ Inv w0 F0 ρ (bupd b (some u)) w' F ∧ Stp ρ b w F ρ (bupd b (some u)) w' F := by
  unfold effStore at h
  split at h
  · rename_i i ns hti hns
    split at h
    rotate_left
    · rename_i x n jj off
      split at h
      · rename_i e k es ds hbx hds
        split at h
        · rename_i el hel
          split at h
          · rename_i hc
            injection h with h
            subst h
            exact storeRe_ok hti hi hx hy hns hbx hds hel hc.1 hc.2.1 hc.2.2
          · cases h
        · cases h
      · cases h
    · cases h
    rename_i x off
    obtain ⟨j, z, uu, hj, hz, hu, hzs, hs, hby, ha, hzz, h1⟩ := tinf_spec hti
    obtain ⟨hr, h1y⟩ := cellsP_reps hy hns
    split at h
    · rename_i ty cs hb
      split at h
      · rename_i hc
        obtain ⟨hc1, hc2⟩ := hc
        injection h with h
        subst h
        cases hx with
        | ptr _ _ g ty' cs' hb' hρ =>
          cases hi.box x _ hb with
          | st _ _ g' xs hρ' hg hF hh hl h1x hrx =>
            rw [hρ] at hρ'
            injection hρ' with e
            injection e with e
            injection e with e
            subst e
            have R : Reps ρ b w F xs.toList cs := ⟨by simpa using hl, fun j x c h2 h3 => hrx j x c (by simpa using h2) h3⟩
            have hw := Inv.write (off := off) hi hb hρ hh hl h1x R hr h1y hc2
            refine ⟨_, ?_, hw.1, hw.2⟩
            have hsz : yv.cells.size = i.size := by have := hr.len; simp at this; omega
            have hst := run_storeCells_at P g off ty yv.cells.toList 0 xs w hh (by simp; omega) h1y
            have e : (List.take (off + 0) xs.toList ++ yv.cells.toList ++ List.drop (off + 0 + yv.cells.toList.length) xs.toList) = splice xs.toList off yv.cells.toList := by
              simp [splice]
            rw [e] at hst
            simp [Instr.storeAt, Instr.sureAddr, storeVar, sizeOf, typeInfo, hj, hs, hsz, hst]
      · cases h
    · cases h
  · cases h
end
end Go.Proofs.Ytjeeclabnimbbaa

/- The pure machine: append, slice expressions, least and greatest. -/
namespace Go.Proofs.Ytjeeclabnimbbaa
open Go.RowKit

section
variable {P : Program} {ρ ρ' : Nat → Value} {b b' : Nat → Option Box} {w w' : World} {w0 : WM} {F F' F0 : Nat → Prop}

theorem append_zero {t ty e : TypeId} {j : TypeInfo} {A A2 : Option Addr} {n c c2 : Nat} (hu : P.underlying t = some (.slice e)) (hj : P.info? e = some j) (hc : n ≤ c) :
    (Builtin.append_ #[t, t] ty #[.slice A n c, .slice A2 0 c2]).run P w = .ok (.slice A n c) w := by
  cases A <;> cases A2 <;> simp [Builtin.append_, run_underlying hu, sizeOf, typeInfo, hj, Builtin.lenOf, Builtin.firstCells, hc, storeCells, loadCells, loadCellsFrom]
theorem own_blk {base e k n : Nat} {v : Value} {xs : List Value} (h : w.ownsRow base e k v n xs) : blk v = v.ownBlock := by
  rcases h.2 with ⟨rfl, _⟩ | ⟨g, cap, cur, rfl, _⟩ <;> rfl
/-- The cells of a slice that can be read, as a list. -/
theorem asSl_list {x : Value} {p : PV} {es : List (List D)} (hi : Inv w0 F0 ρ b w F) (h : PRep ρ b w F x p) (hp : asSl b p = some es) (hne : es ≠ []) :
    ∃ (a : Addr) (c : Nat) (us : List Value), x = .slice (some a) es.length c ∧ us.length = es.flatten.length ∧ (∀ (j : Nat) u, us[j]? = some u → w.cell? (a.add j) = some u) ∧ ∀ (j : Nat) u d, us[j]? = some u → es.flatten[j]? = some d → DRep w F u d := by
  obtain ⟨A, c, k, rfl, hc, hm, hk, hA, hcell⟩ := asSl_reads hi h hp
  cases A with
  | none => exact absurd (hA rfl).1 hne
  | some a =>
    have hcell := hcell a rfl
    refine ⟨a, c, (List.range es.flatten.length).map (fun j => (w.cell? (a.add j)).getD undef), rfl, by simp, fun j u hu => ?_, fun j u d hu hd => ?_⟩
    · simp only [List.getElem?_map, Option.map_eq_some_iff] at hu
      obtain ⟨j', hj', rfl⟩ := hu
      obtain ⟨rfl, hj⟩ := range_at hj'
      obtain ⟨u, h1, _⟩ := hcell _ _ (List.getElem?_eq_getElem hj)
      rw [h1]; rfl
    · simp only [List.getElem?_map, Option.map_eq_some_iff] at hu
      obtain ⟨j', hj', rfl⟩ := hu
      obtain ⟨rfl, hj⟩ := range_at hj'
      obtain ⟨u, h1, h2⟩ := hcell _ _ hd
      rw [h1]; exact h2
theorem asSl_nil {x : Value} {p : PV} (hi : Inv w0 F0 ρ b w F) (h : PRep ρ b w F x p) (hp : asSl b p = some []) : ∃ A c, x = .slice A 0 c := by
  obtain ⟨A, c, k, rfl, _⟩ := asSl_reads hi h hp
  exact ⟨A, c, rfl⟩

theorem effAppend_ok {dst : Option Nat} {t ty : TypeId} {xv yv : Value} {p q r : PV} {u : Option (Nat × Box)} (hd : ∀ d, dst = some d → d < 1000000) (hi : Inv w0 F0 ρ b w F) (hx : PRep ρ b w F xv p) (hy : PRep ρ b w F yv q) (h : effAppend P b dst t p q = some (r, u)) :
    Got P w0 F0 ρ b w F ((Builtin.append_ #[t, t] ty #[xv, yv]).run P w) r u := by
  unfold effAppend at h
  split at h
  · rename_i e es2 hu hq
    split at h
    · rename_i i hti
      obtain ⟨j, z, uu, hj, hz, hu2, hzs, hs, hby, ha, hzz, h1⟩ := tinf_spec hti
      split at h
      · rename_i hc
        obtain ⟨hk0, hb0, hk2⟩ := hc
        split at h
        · rename_i x n
          split at h
          · rename_i e' k es hbx
            cases hx with
            | row _ _ A c e3 k3 es3 hb3 hn hcc hA hρ =>
              by_cases hnil : es2 = []
              · split at h
                · rename_i hc
                  obtain ⟨hl, rfl, rfl, hbytes⟩ := hc
                  injection h with h
                  injection h with e1 e2
                  subst e1 e2 hnil
                  obtain ⟨A2, c2, rfl⟩ := asSl_nil hi hy hq
                  have hsame : bupd b (some (x, .rw e' i.size (es ++ []))) = b := by
                    funext t'
                    by_cases ht : t' = x
                    · subst ht; rw [bupd_same, List.append_nil]; exact hbx.symm
                    · rw [bupd_ne _ _ ht]
                  refine ⟨_, w, ρ, append_zero hu hj hcc, ?_, ?_, ?_⟩
                  · rw [hsame]; exact hi
                  · rw [hsame]; exact Stp.refl _ _ _ _
                  · rw [hsame]; exact .row _ _ A c e3 k3 es3 hb3 hn hcc hA hρ
                · cases h
              · have hne := hnil
                split at h
                · rename_i hc
                  obtain ⟨hl, rfl, rfl, hbytes⟩ := hc
                  injection h with h
                  injection h with e1 e2
                  subst e1 e2
                  rw [hbx] at hb3
                  injection hb3 with hb3
                  injection hb3 with e1 e2 e3
                  subst e1 e2 e3
                  have hρ := hρ hl
                  subst hl
                  obtain ⟨a, c2, us, rfl, hul, hcell, hrep⟩ := asSl_list hi hy hq hne
                  have hfl := flat_length i.size es2 hk2
                  have h1u : ∀ u ∈ us, u.oneCell' = true := fun u hu => by
                    obtain ⟨jj, hjj⟩ := List.getElem?_of_mem hu
                    have hlt := (List.getElem?_eq_some_iff.1 hjj).1
                    exact (hrep jj u _ hjj (List.getElem?_eq_getElem (by omega))).one
                  have hbx0 := hi.box _ _ hbx
                  cases hbx0 with
                  | gn _ _ _ hg => rw [hρ] at hg; cases hg
                  | rw _ _ _ xs hk0' ho hFg hk hl' hr hown0 =>
                    have h63 : es.length + es2.length ≤ maxLen := by
                      have hbytes := hbytes
                      unfold small at hbytes
                      have : (es.length + es2.length) * 1 ≤ (es.length + es2.length) * i.bytes := Nat.mul_le_mul_left _ hb0
                      simp only [maxLen]; omega
                    rw [← hρ]
                    obtain ⟨v', w', hrun, hown, hgrow, hnilv, hat⟩ := run_append_own_at (P := P) w 0 t ty _ j z i.size i.bytes hu hj hz hs hby hzs hk0 (ρ x) es.length xs ho a es2.length c2 us (by rw [hul, hfl]) hcell h1u h63 hbytes (Nat.zero_le _)
                    have hne2 : 0 < es2.length := by cases es2 with | nil => exact absurd rfl hne | cons _ _ => simp
                    have hFb : ∀ g, F g → some g ≠ (ρ x).ownBlock := fun g hg e => hFg g (by rw [own_blk ho]; exact e.symm) hg
                    have hstp : Stp ρ b w F (rupd ρ x v') (bupd b (some (x, .rw e' i.size (es ++ es2)))) w' F := by
                      refine ⟨fun _ h => h, fun g hg => hgrow.block g (hi.flt g hg) (hFb g hg), fun t' ty' cs' h => ?_, fun t' e2 k2 es3 h => ?_⟩
                      · have h' : t' ≠ x := fun e => by rw [e, hbx] at h; cases h
                        rw [rupd_ne _ _ h', bupd_ne _ _ h']
                        exact ⟨⟨_, _, h⟩, rfl⟩
                      · by_cases h' : t' = x
                        · subst h'
                          rw [hbx] at h
                          injection h with h
                          injection h with e1 e2 e3
                          subst e1 e2 e3
                          rw [bupd_same]
                          exact ⟨_, _, rfl, by simp, fun h => by simp at h; exact absurd h hne⟩
                        · rw [rupd_ne _ _ h', bupd_ne _ _ h']
                          exact ⟨e2, es3, h, Nat.le_refl _, fun _ => rfl⟩
                    have hext : ExtM w0 w' := hi.ext.step hgrow.os hgrow.tape hgrow.output hgrow.size fun g hg hM => hgrow.block g (Nat.lt_of_lt_of_le hg hi.ext.size) fun e => not_own hg hM (hown0 g (by rw [own_blk ho]; exact e.symm))
                    have hlen2 : (es ++ es2).length = es.length + es2.length := by simp
                    have hbox : BoxAt (rupd ρ x v') (bupd b (some (x, .rw e' i.size (es ++ es2)))) w0.own w' F x (.rw e' i.size (es ++ es2)) := by
                      refine .rw e' i.size (es ++ es2) (xs ++ us) hk0 (by rw [rupd_same, hlen2]; exact hown) (fun g hg => ?_) (fun y hy => ?_) (by simp [hl', hul]) (fun jj x' d h2 h3 => ?_) (fun g hg => ?_)
                      · rw [rupd_same, own_blk hown] at hg
                        rcases hat with h | h
                        · rw [h] at hg
                          exact fun hF => hFb g hF hg.symm
                        · rw [h] at hg
                          injection hg with hg
                          intro hF
                          have := hi.flt g hF
                          omega
                      · rcases List.mem_append.1 hy with h | h
                        · exact hk y h
                        · exact hk2 y h
                      · rw [List.flatten_append] at h3
                        rw [List.getElem?_append] at h2 h3
                        rw [← hl'] at h3
                        split at h2
                        · rename_i hlt
                          rw [if_pos hlt] at h3
                          exact (hr jj x' d h2 h3).mono hstp.hF hstp.hw
                        · rename_i hlt
                          rw [if_neg hlt] at h3
                          exact (hrep _ x' d h2 h3).mono hstp.hF hstp.hw
                      · rw [rupd_same, own_blk hown] at hg
                        rcases hat with h | h
                        · rw [h] at hg; exact hown0 g (by rw [own_blk ho]; exact hg)
                        · rw [h] at hg; injection hg with hg; exact .inl (by have := hi.ext.size; omega)
                    have hinv := Inv.turn (w' := w') hi hbx hstp hext hgrow.size (fun g hg hne => hgrow.block g hg (fun e => hne (by rw [own_blk ho]; exact e.symm))) (fun g hg => by
                      rw [own_blk hown] at hg
                      rcases hat with h | h
                      · rw [h] at hg; exact .inl (by rw [own_blk ho]; exact hg)
                      · rw [h] at hg; injection hg with hg; exact .inr (by omega)) hbox
                    refine ⟨v', w', _, hrun, hinv, hstp, ?_⟩
                    rcases hown.2 with ⟨_, h0⟩ | ⟨g, cap, cur, rfl, _, _, hcap, _⟩
                    · omega
                    · exact .row _ _ _ cap _ _ _ (bupd_same _ _ _) (by rw [hlen2]; exact Nat.le_refl _) hcap (fun _ => ⟨_, rfl⟩) (fun _ => rupd_same _ _ _)
                · cases h
          · cases h
        · rename_i n c
          split at h
          · rename_i hnc
            obtain ⟨rfl, rfl⟩ := hnc
            obtain ⟨rfl, _⟩ := hx.vv
            by_cases hnil : es2 = []
            · split at h
              · rename_i d
                split at h
                · rename_i hbd
                  split at h
                  · injection h with h
                    injection h with e1 e2
                    subst e1 e2 hnil
                    obtain ⟨A2, c2, rfl⟩ := asSl_nil hi hy hq
                    rw [append_zero hu hj (Nat.le_refl _)]
                    exact newRw (P := P) (t := d) (e := e) (k := i.size) (es := []) (xs := []) hi (hd _ rfl) hbd hk0 (Ext.refl w) (fun g hg => by cases hg) (World.ownsRow_nil w _ e i.size) (by simp) rfl (by simp)
                  · cases h
                · cases h
              · cases h
            · have hne := hnil
              split at h
              · rename_i d
                split at h
                · rename_i hbd
                  split at h
                  · rename_i hbytes
                    injection h with h
                    injection h with e1 e2
                    subst e1 e2
                    obtain ⟨a, c2, us, rfl, hul, hcell, hrep⟩ := asSl_list hi hy hq hne
                    have hfl := flat_length i.size es2 hk2
                    have h1u : ∀ u ∈ us, u.oneCell' = true := fun u hu => by
                      obtain ⟨jj, hjj⟩ := List.getElem?_of_mem hu
                      have hlt := (List.getElem?_eq_some_iff.1 hjj).1
                      exact (hrep jj u _ hjj (List.getElem?_eq_getElem (by omega))).one
                    have h63 : 0 + es2.length ≤ maxLen := by
                      have hbytes := hbytes
                      unfold small at hbytes
                      have : es2.length * 1 ≤ es2.length * i.bytes := Nat.mul_le_mul_left _ hb0
                      simp only [maxLen]; omega
                    obtain ⟨v', w', hrun, hown, hgrow, hnilv, hat⟩ := run_append_own_at (P := P) w 0 t ty e j z i.size i.bytes hu hj hz hs hby hzs hk0 (.slice none 0 0) 0 [] (World.ownsRow_nil w _ e i.size) a es2.length c2 us (by rw [hul, hfl]) hcell h1u h63 (by rw [Nat.zero_add]; exact hbytes) (Nat.zero_le _)
                    rw [Nat.zero_add, List.nil_append] at hown
                    have hx2 : Ext w w' := ⟨hgrow.os, hgrow.tape, hgrow.output, hgrow.size, fun k hk => hgrow.block k hk (by simp [Value.ownBlock])⟩
                    have hv : ∀ g, blk v' = some g → w.heap.size ≤ g := fun g hg => by
                      rw [own_blk hown] at hg
                      rcases hat with h | h
                      · rw [h] at hg; cases hg
                      · rw [h] at hg; injection hg with hg; omega
                    have := newRw (P := P) (t := d) (e := e) (k := i.size) (es := es2) (xs := us) hi (hd _ rfl) hbd hk0 hx2 hv hown hk2 hul hrep
                    rw [hrun]
                    exact this
                  · cases h
                · cases h
              · cases h
          · cases h
        · cases h
      · cases h
    · cases h
  · cases h

theorem effMin_ok {ty1 : Array TypeId} {ty : TypeId} {xv yv : Value} {p q r : PV} (hx : PRep ρ b w F xv p) (hy : PRep ρ b w F yv q) (h : effMin p q = some r) : ∃ v, PRep ρ b w F v r ∧ (Builtin.min_ ty1 ty #[xv, yv]).run P w = .ok v w := by
  unfold effMin at h
  split at h
  · rename_i k m k' n h1 h2
    injection h with h
    subst h
    obtain rfl := asI_spec hx h1
    obtain rfl := asI_spec hy h2
    exact ⟨_, .lit rfl, by simp [Builtin.min_, Builtin.min2]⟩
  · cases h
theorem effMax_ok {ty1 : Array TypeId} {ty : TypeId} {xv yv : Value} {p q r : PV} (hx : PRep ρ b w F xv p) (hy : PRep ρ b w F yv q) (h : effMax p q = some r) : ∃ v, PRep ρ b w F v r ∧ (Builtin.max_ ty1 ty #[xv, yv]).run P w = .ok v w := by
  unfold effMax at h
  split at h
  · rename_i k m k' n h1 h2
    injection h with h
    subst h
    obtain rfl := asI_spec hx h1
    obtain rfl := asI_spec hy h2
    exact ⟨_, .lit rfl, by simp [Builtin.max_, Builtin.max2]⟩
  · cases h

theorem effMinL_ok : ∀ (qs : List PV) (ys : List Value) (p : PV) (x : Value) (r : PV), PRep ρ b w F x p → Reps ρ b w F ys qs → effMinL p qs = some r → ∃ v, PRep ρ b w F v r ∧ (ys.foldlM Builtin.min2 x).run P w = .ok v w
  | [], ys, p, x, r, hx, hr, h => by
    have : ys = [] := List.eq_nil_of_length_eq_zero (by simpa using hr.len)
    subst this
    injection h with h
    subst h
    exact ⟨x, hx, rfl⟩
  | q :: qs, ys, p, x, r, hx, hr, h => by
    cases ys with
    | nil => have := hr.len; simp at this
    | cons y ys =>
      simp only [effMinL] at h
      cases hm : effMin p q with
      | none => rw [hm] at h; cases h
      | some r1 =>
        rw [hm] at h
        have hy := hr.rep 0 y q rfl rfl
        have hr2 : Reps ρ b w F ys qs := ⟨by have := hr.len; simpa using this, fun j v c h1 h2 => hr.rep (j + 1) v c (by simpa using h1) (by simpa using h2)⟩
        obtain ⟨v, h3, h4⟩ := effMin_ok (P := P) (ty1 := #[]) (ty := 0) hx hy hm
        obtain ⟨v2, h5, h6⟩ := effMinL_ok qs ys r1 v r h3 hr2 h
        refine ⟨v2, h5, ?_⟩
        have e : (Builtin.min2 x y).run P w = .ok v w := by simpa [Builtin.min_] using h4
        rw [List.foldlM_cons, Sem.run_bind, e]
        exact h6
theorem effMaxL_ok : ∀ (qs : List PV) (ys : List Value) (p : PV) (x : Value) (r : PV), PRep ρ b w F x p → Reps ρ b w F ys qs → effMaxL p qs = some r → ∃ v, PRep ρ b w F v r ∧ (ys.foldlM Builtin.max2 x).run P w = .ok v w
  | [], ys, p, x, r, hx, hr, h => by
    have : ys = [] := List.eq_nil_of_length_eq_zero (by simpa using hr.len)
    subst this
    injection h with h
    subst h
    exact ⟨x, hx, rfl⟩
  | q :: qs, ys, p, x, r, hx, hr, h => by
    cases ys with
    | nil => have := hr.len; simp at this
    | cons y ys =>
      simp only [effMaxL] at h
      cases hm : effMax p q with
      | none => rw [hm] at h; cases h
      | some r1 =>
        rw [hm] at h
        have hy := hr.rep 0 y q rfl rfl
        have hr2 : Reps ρ b w F ys qs := ⟨by have := hr.len; simpa using this, fun j v c h1 h2 => hr.rep (j + 1) v c (by simpa using h1) (by simpa using h2)⟩
        obtain ⟨v, h3, h4⟩ := effMax_ok (P := P) (ty1 := #[]) (ty := 0) hx hy hm
        obtain ⟨v2, h5, h6⟩ := effMaxL_ok qs ys r1 v r h3 hr2 h
        refine ⟨v2, h5, ?_⟩
        have e : (Builtin.max2 x y).run P w = .ok v w := by simpa [Builtin.max_] using h4
        rw [List.foldlM_cons, Sem.run_bind, e]
        exact h6

end
end Go.Proofs.Ytjeeclabnimbbaa

/- The pure machine: copy, make. -/
namespace Go.Proofs.Ytjeeclabnimbbaa
open Go.RowKit

/-- The part of a row that a value is: its number, its length, from where, to where. -/
def partP : PV → Option (Nat × Nat × Nat × Nat)
  | .row t n => some (t, n, 0, n)
  | .vw t n lo hi => some (t, n, lo, hi)
  | _ => none
def putAt {α : Type} (es : List α) (lo : Nat) (ys : List α) : List α := es.take lo ++ ys ++ es.drop (lo + ys.length)
def effCopy (P : Program) (b : Nat → Option Box) (t : TypeId) (p q : PV) : Option (PV × (Nat × Box)) :=
  match P.underlying t, asSl b q, partP p with
  | some (.slice e), some ys, some (x, n, lo, hi) => match tinf P e, b x with
    | some i, some (.rw e' k es) => if es.length = n ∧ k = i.size ∧ lenAll i.size ys ∧ lo ≤ hi ∧ hi ≤ n then
        some (.d (.v (.int .i64 (min ys.length (hi - lo) : Nat))), (x, .rw e' k (putAt es lo (ys.take (hi - lo))))) else none
    | _, _ => none
  | _, _, _ => none
def effMake (P : Program) (b : Nat → Option Box) (dst : Option Nat) (t : TypeId) (p q : PV) : Option (PV × Option (Nat × Box)) :=
  match dst, P.underlying t, asI p, asI q with
  | some d, some (.slice e), some (_, n), some (_, m) => match tinf P e, b d with
    | some i, none => if n = m ∧ 0 ≤ n ∧ n ≤ 1000000 ∧ 0 < i.size ∧ i.bytes ≤ 1000000 then
        some (.row d n.toNat, some (d, .rw e i.size (List.replicate n.toNat (i.zero.map fun z => nrm (.v z))))) else none
    | _, _ => none
  | _, _, _, _ => none

section
variable {P : Program} {ρ ρ' : Nat → Value} {b b' : Nat → Option Box} {w w' : World} {w0 : WM} {F F' F0 : Nat → Prop}

theorem run_copyP (w : World) (dT sT ty elem : TypeId) (K g o dLen dCap m : Nat) (a : Addr) (sLen sCap : Nat) (cur : Array Value) (t : TypeId) (cs : List Value)
    (hu : P.underlying dT = some (.slice elem)) (hs : (P.info? elem).map (·.size) = some K)
    (hg : w.heap[g]? = some (.cells cur t (0, 0))) (hm : Nat.min sLen dLen = m) (hn : cs.length = m * K)
    (hsrc : ∀ j v, cs[j]? = some v → w.cell? (a.add j) = some v) (hfit : o + cs.length ≤ cur.size) (h1 : ∀ v ∈ cs, v.oneCell' = true) :
    (Builtin.copy_ #[dT, sT] ty #[.slice (some ⟨g, o, none⟩) dLen dCap, .slice (some a) sLen sCap]).run P w =
      .ok (goInt m) (w.setRow g (splice cur.toList o cs).toArray) := by
  have hl := run_loadCells_list (P := P) w a cs hsrc
  have hst := run_storeCells_at P g o t cs 0 cur w hg (by simpa using hfit) h1
  rw [hn] at hl
  cases hq : P.info? elem with
  | none => simp [hq] at hs
  | some i =>
    have hi : i.size = K := by simpa [hq] using hs
    simp [Builtin.copy_, run_underlying hu, Builtin.lenOf, Builtin.firstCells, sizeOf, typeInfo, hq, hi, hm, hl, hst, splice]
theorem run_copyP_none (w : World) (dT sT ty elem : TypeId) (K : Nat) (d a : Option Addr) (dLen dCap sLen sCap : Nat) (hu : P.underlying dT = some (.slice elem)) (hs : (P.info? elem).map (·.size) = some K) (hn : Nat.min sLen dLen = 0) :
    (Builtin.copy_ #[dT, sT] ty #[.slice d dLen dCap, .slice a sLen sCap]).run P w = .ok (goInt 0) w := by
  cases hq : P.info? elem with
  | none => simp [hq] at hs
  | some i =>
    have hl : ∀ (x : Addr), (loadCells x 0).run P w = .ok #[] w := fun x => by simpa using run_loadCells_list (P := P) w x [] (by simp)
    cases d <;> cases a <;> simp [Builtin.copy_, run_underlying hu, Builtin.lenOf, Builtin.firstCells, sizeOf, typeInfo, hq, hn, storeCells, hl]

/-- Cells of a row of the call's own are written. -/
theorem spliceRow_ok {x e k g c o : Nat} {es es' : List (List D)} {vs : List Value} {ds : List D} (hi : Inv w0 F0 ρ b w F) (hb : b x = some (.rw e k es)) (hρ : ρ x = .slice (some ⟨g, 0, none⟩) es.length c)
    (hvl : vs.length = ds.length) (h1y : ∀ y ∈ vs, y.oneCell' = true) (hrv : ∀ (j : Nat) u d, vs[j]? = some u → ds[j]? = some d → DRep w F u d) (hfit : o + ds.length ≤ es.length * k)
    (hfl' : es'.flatten = splice es.flatten o ds) (hkk : ∀ y ∈ es', y.length = k) (hl' : es'.length = es.length) :
    ∃ cur, w.heap[g]? = some (.cells cur e (0, 0)) ∧ o + vs.length ≤ cur.size ∧ Inv w0 F0 ρ (bupd b (some (x, .rw e k es'))) (w.setRow g (splice cur.toList o vs).toArray) F ∧ Stp ρ b w F ρ (bupd b (some (x, .rw e k es'))) (w.setRow g (splice cur.toList o vs).toArray) F := by
  have hbx := hi.box x _ hb
  cases hbx with
  | gn _ _ _ hg => rw [hρ] at hg; cases hg
  | rw _ _ _ xs hk0 ho hF hk hl hrx hown =>
    have hFg : ¬ F g := hF g (by rw [hρ]; rfl)
    have hown0 : w0.own g := hown g (by rw [hρ]; rfl)
    have ho' := ho
    rw [hρ] at ho'
    rcases ho'.2 with ⟨h', _⟩ | ⟨g', cap', cur, h', hbase, hg, hnc, hcm, hcs, htake⟩
    · cases h'
    · injection h' with h2 h3 h4
      injection h2 with h2
      injection h2 with h2
      subst h2 h4
      have hck : es.length * k ≤ cur.size := by rw [hcs]; exact Nat.mul_le_mul_right _ hnc
      have hfl : es.flatten.length = es.length * k := flat_length k es hk
      have hR : Reps ρ b w F xs (es.flatten.map .d) := ⟨by rw [List.length_map]; exact hl, fun p u d h5 h6 => by
        rw [List.getElem?_map, Option.map_eq_some_iff] at h6
        obtain ⟨d', h6, rfl⟩ := h6
        exact .d _ _ (hrx p u d' h5 h6)⟩
      have hV : Reps ρ b w F vs (ds.map .d) := ⟨by rw [List.length_map]; exact hvl, fun p u d h5 h6 => by
        rw [List.getElem?_map, Option.map_eq_some_iff] at h6
        obtain ⟨d', h6, rfl⟩ := h6
        exact .d _ _ (hrv p u d' h5 h6)⟩
      have hSp := hR.splice hV o
      rw [← splice_map, ← hfl'] at hSp
      have hstp : Stp ρ b w F ρ (bupd b (some (x, .rw e k es'))) (w.setRow g (splice cur.toList o vs).toArray) F := by
        refine ⟨fun _ h => h, fun p hp => setRow_other w g p _ (fun h => hFg (h ▸ hp)), fun t' ty' cs' h => ?_, fun t' e' k' es2 h => ?_⟩
        · have h' : t' ≠ x := fun h' => by rw [h', hb] at h; cases h
          rw [bupd_ne _ _ h']; exact ⟨⟨_, _, h⟩, rfl⟩
        · by_cases h' : t' = x
          · subst h'
            rw [hb] at h
            injection h with h
            injection h with q1 q2 q3
            subst q1 q2 q3
            rw [bupd_same]
            exact ⟨_, _, rfl, by omega, fun _ => rfl⟩
          · rw [bupd_ne _ _ h']; exact ⟨e', es2, h, Nat.le_refl _, fun _ => rfl⟩
      refine ⟨cur, hg, by rw [hvl]; omega, ?_, hstp⟩
      have hs2 := hstp
      rw [← rupd_self ρ x] at hstp
      have := Inv.turn (v := ρ x) (B' := .rw e k es') (w' := w.setRow g (splice cur.toList o vs).toArray) hi hb (by rw [rupd_self] at hstp ⊢; exact hs2)
        (hi.ext.step rfl rfl rfl (by simp) fun p hp hM => setRow_other w g p _ (fun h => not_own hp hM (h ▸ hown0))) (by simp) (fun p _ hp => setRow_other w g p _ (fun h => hp (by rw [hρ, h]; rfl))) (fun p hp => .inl hp) ?_
      · rw [rupd_self] at this; exact this
      · rw [rupd_self]
        have hsp := hSp.mono hs2
        refine .rw e k _ (splice xs o vs) hk0 ?_ hF hkk ?_ (fun p u d h5 h6 => ?_) hown
        · rw [hρ]
          refine ⟨by rw [splice_len (by rw [hl]; omega), hl']; exact ho.1, .inr ⟨g, c, (splice cur.toList o vs).toArray, by rw [hl'], hbase, setRow_heap w g cur _ e _ hg, by rw [hl']; exact hnc, hcm, ?_, ?_⟩⟩
          · rw [List.size_toArray, splice_len (by simp; omega)]; simpa using hcs
          · rw [hl', splice_take _ _ _ _ (by omega) (by simpa using hck), htake]
        · have := hsp.len; rw [List.length_map] at this; exact this
        · have := hsp.rep p u (.d d) h5 (by rw [List.getElem?_map, h6]; rfl)
          cases this with
          | d _ _ h9 => exact h9
theorem putAt_len {α : Type} {es ys : List α} {lo : Nat} (h : lo + ys.length ≤ es.length) : (putAt es lo ys).length = es.length := by
  simp [putAt]; omega
theorem putAt_flat {α : Type} (k : Nat) {es ys : List (List α)} (hk : ∀ e ∈ es, e.length = k) (hy : ∀ e ∈ ys, e.length = k) {lo : Nat} (h : lo + ys.length ≤ es.length) : (putAt es lo ys).flatten = splice es.flatten (lo * k) ys.flatten := by
  have e1 : (es.take lo).flatten = es.flatten.take (lo * k) := by
    have hl : (es.take lo).flatten.length = lo * k := by rw [flat_length k _ (fun e he => hk e (List.mem_of_mem_take he))]; simp; rw [Nat.min_eq_left (by omega)]
    have : es.flatten = (es.take lo).flatten ++ (es.drop lo).flatten := by rw [← List.flatten_append, List.take_append_drop]
    rw [this, List.take_left' hl]
  unfold putAt splice
  rw [List.flatten_append, List.flatten_append, e1, drop_flat k _ es hk h, flat_length k ys hy, Nat.add_mul]
theorem putAt_mem {α : Type} {es ys : List α} {lo : Nat} {y : α} (h : y ∈ putAt es lo ys) : y ∈ es ∨ y ∈ ys := by
  simp only [putAt, List.mem_append] at h
  rcases h with (h | h) | h
  · exact .inl (List.mem_of_mem_take h)
  · exact .inr h
  · exact .inl (List.mem_of_mem_drop h)
theorem effCopy_ok {t sT ty : TypeId} {xv yv : Value} {p q r : PV} {u : Nat × Box} (hi : Inv w0 F0 ρ b w F) (hx : PRep ρ b w F xv p) (hy : PRep ρ b w F yv q) (h : effCopy P b t p q = some (r, u)) :
    Got P w0 F0 ρ b w F ((Builtin.copy_ #[t, sT] ty #[xv, yv]).run P w) r (some u) := by
  unfold effCopy at h
  split at h
  · rename_i e ys x n lo hi' hu hq hp
    split at h
    · rename_i i e' k es hti hb
      obtain ⟨j, z, uu, hj, hz, hu2, hzs, hs, hby, ha, hzz, h1⟩ := tinf_spec hti
      split at h
      · rename_i hc
        obtain ⟨hl, hk, hall, hlo, hhi⟩ := hc
        injection h with h
        injection h with e1 e2
        subst e1 e2 hk
        have hsz : (P.info? e).map (·.size) = some i.size := by rw [hj]; simp [hs]
        -- what the destination is
        have hd : ∃ A c A2 c2, ρ x = .slice A n c ∧ xv = .slice A2 (hi' - lo) c2 ∧ (lo < hi' → ∃ g, A = some ⟨g, 0, none⟩ ∧ A2 = some ⟨g, lo * i.size, none⟩) := by
          cases hx with
          | row _ _ A c e3 k3 es3 hb3 hn hcc hA hρ =>
            injection hp with hp
            injection hp with q1 q2
            injection q2 with q2 q3
            injection q3 with q3 q4
            subst q1 q2 q3 q4
            rw [hb] at hb3
            injection hb3 with hb3
            injection hb3 with q1 q2 q3
            subst q1 q2 q3
            refine ⟨A, c, A, c, hρ hl, rfl, fun h0 => ?_⟩
            obtain ⟨a, rfl⟩ := hA h0
            rcases (rw_shape (hi.box _ _ hb) (hρ hl)).2.2.2.2.2 with ⟨h, _⟩ | ⟨g, h⟩
            · cases h
            · exact ⟨g, h, by rw [h, Nat.zero_mul]⟩
          | vw _ _ _ _ A m c e3 k3 es3 hb3 hn hl3 hh3 hm hρ =>
            injection hp with hp
            injection hp with q1 q2
            injection q2 with q2 q3
            injection q3 with q3 q4
            subst q1 q2 q3 q4
            rw [hb] at hb3
            injection hb3 with hb3
            injection hb3 with q1 q2 q3
            subst q1 q2 q3
            obtain ⟨A', c', h1, h2⟩ := hρ hl
            obtain ⟨A2, c2, e1, _, _, _, h5, _⟩ := vw_cells (hi.box _ _ hb) h1 hlo hhi
            rw [e1] at h2
            exact ⟨A', c', A2, c2, h1, h2, h5⟩
          | _ => cases hp
        obtain ⟨A, c, A2, c2, hρ, rfl, hpos⟩ := hd
        obtain ⟨B, cB, kB, rfl, _, _, _, hB, hcB⟩ := asSl_reads hi hy hq
        have hmin : (ys.take (hi' - lo)).length = min ys.length (hi' - lo) := by rw [List.length_take, Nat.min_comm]
        by_cases h0 : min ys.length (hi' - lo) = 0
        · have hnil : ys.take (hi' - lo) = [] := List.eq_nil_of_length_eq_zero (by omega)
          have hsame : bupd b (some (x, .rw e' i.size (putAt es lo (ys.take (hi' - lo))))) = b := by
            rw [hnil]
            funext t'
            by_cases ht : t' = x
            · subst ht; rw [bupd_same, hb]; simp [putAt]
            · rw [bupd_ne _ _ ht]
          refine ⟨_, w, ρ, run_copyP_none w t sT ty e i.size A2 B (hi' - lo) c2 ys.length cB hu hsz h0, ?_, ?_, ?_⟩
          · rw [hsame]; exact hi
          · rw [hsame]; exact Stp.refl _ _ _ _
          · rw [h0]; exact .lit rfl
        · obtain ⟨g, rfl, rfl⟩ := hpos (by omega)
          cases B with
          | none =>
            have := (hB rfl).1
            subst this
            simp at h0
          | some a =>
            have hcB := hcB a rfl
            have hml : (ys.take (hi' - lo)).flatten.length = min ys.length (hi' - lo) * i.size := by rw [flat_length i.size _ (fun e he => hall e (List.mem_of_mem_take he)), hmin]
            have hcell : ∀ (j : Nat) d, (ys.take (hi' - lo)).flatten[j]? = some d → ∃ u, w.cell? (a.add j) = some u ∧ DRep w F u d := fun j d hj => hcB j d (take_flat _ _ _ _ hj)
            have hsrc : ∀ (j : Nat) v, ((List.range (ys.take (hi' - lo)).flatten.length).map fun j => (w.cell? (a.add j)).getD undef)[j]? = some v → j < (ys.take (hi' - lo)).flatten.length ∧ w.cell? (a.add j) = some v ∧ ∀ d, (ys.take (hi' - lo)).flatten[j]? = some d → DRep w F v d := by
              intro j v hv
              rw [List.getElem?_map, Option.map_eq_some_iff] at hv
              obtain ⟨j', hj', rfl⟩ := hv
              obtain ⟨rfl, hlt⟩ := range_at hj'
              obtain ⟨u, h3, h4⟩ := hcell _ _ (List.getElem?_eq_getElem hlt)
              refine ⟨hlt, by rw [h3]; rfl, fun d hd => ?_⟩
              obtain ⟨u', h5, h6⟩ := hcell _ _ hd
              rw [h5]; exact h6
            have hone : ∀ y ∈ ((List.range (ys.take (hi' - lo)).flatten.length).map fun j => (w.cell? (a.add j)).getD undef), y.oneCell' = true := by
              intro y hy
              obtain ⟨j, hj⟩ := List.getElem?_of_mem hy
              obtain ⟨hlt, _, h5⟩ := hsrc j y hj
              exact (h5 _ (List.getElem?_eq_getElem hlt)).one
            have hfit : lo + (ys.take (hi' - lo)).length ≤ es.length := by rw [hmin]; omega
            have hk3 := (rw_shape (hi.box _ _ hb) hρ).2.2.2.1
            subst hl
            obtain ⟨cur, k1, k2, k3, k4⟩ := spliceRow_ok (o := lo * i.size) (es' := putAt es lo (ys.take (hi' - lo))) (vs := (List.range (ys.take (hi' - lo)).flatten.length).map fun j => (w.cell? (a.add j)).getD undef) (ds := (ys.take (hi' - lo)).flatten) hi hb hρ (by simp) hone
              (fun j u d hu hd => (hsrc j u hu).2.2 d hd) (by rw [hml, ← Nat.add_mul, ← hmin]; exact Nat.mul_le_mul_right _ hfit) (putAt_flat i.size hk3 (fun e he => hall e (List.mem_of_mem_take he)) hfit)
              (fun y hy => (putAt_mem hy).elim (hk3 y) (fun h => hall y (List.mem_of_mem_take h))) (putAt_len hfit)
            refine ⟨_, _, ρ, run_copyP w t sT ty e i.size g (lo * i.size) (hi' - lo) c2 (min ys.length (hi' - lo)) a ys.length cB cur e' _ hu hsz k1 rfl (by simpa using hml) (fun j v hv => (hsrc j v hv).2.1) k2 hone, k3, k4, .lit rfl⟩
      · cases h
    · cases h
  · cases h
theorem effMake_ok {dst : Option Nat} {t : TypeId} {xv yv : Value} {p q r : PV} {u : Option (Nat × Box)} (hd : ∀ d, dst = some d → d < 1000000) (hi : Inv w0 F0 ρ b w F) (hx : PRep ρ b w F xv p) (hy : PRep ρ b w F yv q) (h : effMake P b dst t p q = some (r, u)) :
    Got P w0 F0 ρ b w F ((Instr.makeSlice t xv yv).run P w) r u := by
  unfold effMake at h
  split at h
  · rename_i d e kn n km m hu hn hm
    split at h
    · rename_i i hti hb
      obtain ⟨j, z, uu, hj, hz, hu2, hzs, hs, hby, ha, hzz, h1⟩ := tinf_spec hti
      split at h
      · rename_i hc
        obtain ⟨rfl, h0, hle, hk0, hbb⟩ := hc
        injection h with h
        injection h with e1 e2
        subst e1 e2
        obtain rfl := asI_spec hx hn
        obtain rfl := asI_spec hy hm
        have hnn : (n : Int) = ((n.toNat : Nat) : Int) := (Int.toNat_of_nonneg h0).symm
        have hbm : j.bytes * n.toNat ≤ 281474976710656 := by
          have h2 : j.bytes ≤ 1000000 := by rw [hby]; exact hbb
          have h3 : n.toNat ≤ 1000000 := by omega
          exact Nat.le_trans (Nat.mul_le_mul h2 h3) (by decide)
        obtain ⟨w', hrun, hown, hgrow⟩ := run_make_full (P := P) w 0 t e j z i.size hu hj hz hs kn km n.toNat hbm (by simp [maxLen]; omega) (Nat.zero_le _)
        rw [← hnn] at hrun
        rw [hrun]
        have hx2 : Ext w w' := ⟨hgrow.os, hgrow.tape, hgrow.output, hgrow.size, fun k hk => hgrow.block k hk (by simp)⟩
        have hzl : ∀ y ∈ List.replicate n.toNat (i.zero.map fun z => nrm (.v z)), y.length = i.size := fun y hy => by
          rw [List.eq_of_mem_replicate hy, List.length_map, hzz]; simpa using hzs
        have hmade : (madeCells z.cells (n.toNat * i.size)).toList = (List.replicate n.toNat z.cells.toList).flatten := zeros_flat hzs
        have hfm : (List.replicate n.toNat (i.zero.map fun z => nrm (.v z))).flatten = ((List.replicate n.toNat z.cells.toList).flatten).map fun z => nrm (.v z) := by
          rw [List.map_flatten, List.map_replicate, hzz]
        have := newRw (P := P) (t := d) (e := e) (k := i.size) (es := List.replicate n.toNat (i.zero.map fun z => nrm (.v z))) (xs := (madeCells z.cells (n.toNat * i.size)).toList) (v := .slice (some ⟨w.heap.size, 0, none⟩) n.toNat n.toNat) (w' := w') hi (hd _ rfl) hb hk0 hx2
          (fun g hg => by simp [blk] at hg; omega) (by rw [List.length_replicate]; exact hown) hzl (by rw [hmade, hfm, List.length_map]) (fun p x d' h7 h8 => by
            rw [hfm, List.getElem?_map] at h8
            rw [hmade] at h7
            rw [h7] at h8
            injection h8 with h8
            subst h8
            have hmem := List.mem_of_getElem? h7
            rw [List.mem_flatten] at hmem
            obtain ⟨l, hl1, hl2⟩ := hmem
            rw [List.eq_of_mem_replicate hl1] at hl2
            exact (DRep.v x (h1 x (by rw [hzz]; exact hl2))).nrm)
        rw [List.length_replicate] at this
        exact this
      · cases h
    · cases h
  · cases h
end
end Go.Proofs.Ytjeeclabnimbbaa

/- The pure machine: slice expressions; all operations under one name. -/
namespace Go.Proofs.Ytjeeclabnimbbaa
open Go.RowKit

def effBuiltin (P : Program) (b : Nat → Option Box) (dst : Option Nat) (f : Builtin) (args : List PV) (ts : List TypeId) : Option (PV × Option (Nat × Box)) :=
  match f with
  | .len => match args, ts with | [x], [t] => (effLen P t x).map fun r => (r, none) | _, _ => none
  | .append => match args, ts with | [x, y], [t, t'] => if t' = t then effAppend P b dst t x y else none | _, _ => none
  | .min => match args with | x :: xs => (effMinL x xs).map fun r => (r, none) | _ => none
  | .max => match args with | x :: xs => (effMaxL x xs).map fun r => (r, none) | _ => none
  | .copy => match args, ts with | [x, y], [t, _] => (effCopy P b t x y).map fun r => (r.1, some r.2) | _, _ => none
  | _ => none
/-- A byte of a text. -/
def effIdx (P : Program) (t : TypeId) (p q : PV) : Option PV := match P.underlying t, asS p, asI q with
  | some .string, some s, some (_, i) => if 0 ≤ i then (match s.data.toList[i.toNat]? with
    | some c => some (.d (.v (.int .u8 (c.toNat : Int))))
    | none => none) else none
  | _, _, _ => none
theorem effIdx_ok {P : Program} {ρ : Nat → Value} {b : Nat → Option Box} {w : World} {F : Nat → Prop} {t : TypeId} {xv iv : Value} {p q r : PV} (hx : PRep ρ b w F xv p) (hq : PRep ρ b w F iv q) (h : effIdx P t p q = some r) :
    ∃ v, PRep ρ b w F v r ∧ (Instr.index t xv iv).run P w = .ok v w := by
  unfold effIdx at h
  split at h
  · rename_i s k i hu hs hi'
    have e1 := asS_spec hx hs
    have e2 := asI_spec hq hi'
    subst e1 e2
    split at h
    · rename_i h0
      split at h
      · rename_i c hc
        injection h with h
        subst h
        have hlt : i.toNat < s.size := by have := (List.getElem?_eq_some_iff.1 hc).1; simpa using this
        have hv : s[i.toNat] = c := by
          have := (List.getElem?_eq_some_iff.1 hc).2
          have h2 : s.data[i.toNat]'(by simpa using hlt) = c := by simpa using this
          exact h2
        refine ⟨.int .u8 ((s[i.toNat]).toNat : Int), ?_, ?_⟩
        · rw [hv]; exact .d _ _ (.v _ rfl)
        · rw [run_index_string (w := w) t s k i hu, dif_pos ⟨h0, by omega⟩]
      · cases h
    · cases h
  · cases h
/-- Bytes as a text. -/
def byteOf : List D → Option Int
  | [.v (.int .u8 n)] => some n
  | _ => none
def bytesOf : List (List D) → ByteArray → Option ByteArray
  | [], acc => some acc
  | e :: es, acc => match byteOf e with
    | some n => bytesOf es (acc.push (UInt8.ofNat n.toNat))
    | none => none
theorem byteOf_spec {e : List D} {n : Int} (h : byteOf e = some n) : e = [.v (.int .u8 n)] := by
  unfold byteOf at h
  split at h
  · injection h with h; rw [h]
  · cases h
def effConvB (P : Program) (b : Nat → Option Box) (src dst : TypeId) (p : PV) : Option PV :=
  match P.underlying src, P.underlying dst with
  | some (.slice e), some .string => match P.underlying e, asSl b p with
    | some (.int .u8), some (x :: es) => (bytesOf (x :: es) ByteArray.empty).map fun s => .d (.v (.string s))
    | _, _ => none
  | _, _ => effConv P src dst p
theorem bytesOf_spec : ∀ (es : List (List D)) (acc s : ByteArray), bytesOf es acc = some s → ∃ ns : List Int, es = ns.map (fun n => [.v (.int .u8 n)]) ∧ s = ns.foldl (fun r n => r.push (UInt8.ofNat n.toNat)) acc
  | [], acc, s, h => by injection h with h; exact ⟨[], rfl, h.symm⟩
  | e :: es, acc, s, h => by
    simp only [bytesOf] at h
    cases hb : byteOf e with
    | none => rw [hb] at h; cases h
    | some n =>
      rw [hb] at h
      obtain ⟨ns, h3, h4⟩ := bytesOf_spec _ _ s h
      exact ⟨n :: ns, by rw [h3, byteOf_spec hb]; rfl, h4⟩
theorem effConvB_ok {P : Program} {ρ : Nat → Value} {b : Nat → Option Box} {w : World} {w0 : WM} {F F0 : Nat → Prop} {src dst : TypeId} {xv : Value} {p r : PV} (hi : Inv w0 F0 ρ b w F) (hx : PRep ρ b w F xv p) (h : effConvB P b src dst p = some r) : ∃ v, PRep ρ b w F v r ∧ (convert src dst xv).run P w = .ok v w := by
  unfold effConvB at h
  split at h
  · rename_i e hs hd
    split at h
    · rename_i y es he hes
      rw [Option.map_eq_some_iff] at h
      obtain ⟨s, h1, rfl⟩ := h
      obtain ⟨ns, h2, rfl⟩ := bytesOf_spec _ _ _ h1
      obtain ⟨A, c, k, rfl, hc, hm, hk, hA, hcell⟩ := asSl_reads hi hx hes
      cases A with
      | none => exact absurd (hA rfl).1 (by simp)
      | some a =>
        have hcell := hcell a rfl
        refine ⟨_, .d _ _ (.v _ rfl), ?_⟩
        rw [run_convert_bytes_string w src dst e (some a) _ c hs he hd]
        have hl : (y :: es).length = ns.length := by rw [h2]; simp
        rw [hl]
        refine run_bytesToString w a ns.length c ns ?_
        have := run_loadCells_list (P := P) w a (ns.map (Value.int .u8)) (fun j v hv => ?_)
        · rw [List.length_map] at this; exact this
        · rw [List.getElem?_map, Option.map_eq_some_iff] at hv
          obtain ⟨n, hn, rfl⟩ := hv
          have hf : (y :: es).flatten[j]? = some (.v (.int .u8 n)) := by
            rw [h2]
            have : ∀ (ns : List Int) (j : Nat) (n : Int), ns[j]? = some n → ((ns.map (fun n => [D.v (.int .u8 n)])).flatten)[j]? = some (.v (.int .u8 n)) := by
              intro ns
              induction ns with
              | nil => intro j n h; simp at h
              | cons m ns ih =>
                intro j n h
                cases j with
                | zero => simp at h; subst h; rfl
                | succ j => simp at h; simpa using ih j n h
            exact this ns j n hn
          obtain ⟨u, h4, h5⟩ := hcell j _ hf
          cases h5 with
          | v _ _ => exact h4
    · cases h
  · exact effConv_ok hx h
/-- What an operation that calls no function yields, and which box it writes. -/
def eff (P : Program) (o : Oper) (s : PS) : Option (PV × Option (Nat × Box)) :=
  match o.op with
  | .move x => some (ev s x, none)
  | .assign x => some (ev s x, none)
  | .pick c x y => match asB (ev s c) with | some t => some (if t then ev s x else ev s y, none) | none => none
  | .alloc e => effAlloc P s.b o.dst e
  | .box e x => effBox s.b o.dst e (ev s x)
  | .build t ps => (effBuild P t (ps.toList.map fun (i, x) => (i, ev s x))).map fun r => (r, none)
  | .buildSlice t n ps => effBuildSlice P s.b o.dst t n (ps.toList.map fun (i, x) => (i, ev s x))
  | .load t x => (effLoad P s.b t (ev s x)).map fun r => (r, none)
  | .store t x y => (effStore P s.b t (ev s x) (ev s y)).map fun u => (.junk, some u)
  | .binOp op t x y _ => (effBin P op t (ev s x) (ev s y)).map fun r => (r, none)
  | .unOp op _ x => (effUn op (ev s x)).map fun r => (r, none)
  | .convert src dst x => (effConvB P s.b src dst (ev s x)).map fun r => (r, none)
  | .slice t x lo hi none => (effSlice P s.b t (ev s x) (lo.map (ev s)) (hi.map (ev s))).map fun r => (r, none)
  | .fieldAddr t x f => (effFieldAddr P t (ev s x) f).map fun r => (r, none)
  | .field t x f => (effField P t (ev s x) f).map fun r => (r, none)
  | .indexAddr t x i => (effIndexAddr P s.b t (ev s x) (ev s i)).map fun r => (r, none)
  | .extract x i => (effExtract (ev s x) i).map fun r => (r, none)
  | .index t x i => (effIdx P t (ev s x) (ev s i)).map fun r => (r, none)
  | .call c => match c.callee with
    | .builtin f => effBuiltin P s.b o.dst f (c.args.toList.map (ev s)) c.argTypes.toList
    | _ => none
  | .makeFunc (.func f) ps qs => some (.fn f (ps.toList.map (ev s)) (qs.toList.map (ev s)), none)
  | .makeSlice t x y => effMake P s.b o.dst t (ev s x) (ev s y)
  | _ => none

section
variable {P : Program} {ρ ρ' : Nat → Value} {b b' : Nat → Option Box} {w w' : World} {w0 : WM} {F F' F0 : Nat → Prop}

theorem optI_spec {ov : Option Value} {op : Option PV} {n l : Nat} (h : match ov, op with | some v, some p => PRep ρ b w F v p | none, none => True | _, _ => False) (hp : optI op n = some l) :
    (ov = none ∧ op = none ∧ l = n) ∨ ∃ k, ov = some (.int k (l : Int)) := by
  unfold optI at hp
  split at hp
  · injection hp with hp
    cases ov with
    | none => exact .inl ⟨rfl, rfl, hp.symm⟩
    | some v => exact h.elim
  · rename_i p
    cases ov with
    | none => exact h.elim
    | some v =>
      split at hp
      · rename_i k i hi
        split at hp
        · rename_i h0
          injection hp with hp
          obtain rfl := asI_spec h hi
          exact .inr ⟨k, by rw [← hp, Int.toNat_of_nonneg h0]⟩
        · cases hp
      · cases hp
theorem sliced_reads {x : Value} {A : Option Addr} {c : Nat} {es : List (List D)} {k l h : Nat} (_ : x = .slice A es.length c) (hc : es.length ≤ c) (hm : c ≤ maxLen) (hk : ∀ e ∈ es, e.length = k) (hA : A = none → es = [] ∧ c = 0)
    (hcell : ∀ a, A = some a → ∀ (j : Nat) d, es.flatten[j]? = some d → ∃ u, w.cell? (a.add j) = some u ∧ DRep w F u d) (hF : ∀ a, A = some a → 0 < es.length → F a.block) (hl : l ≤ h) (hh : h ≤ es.length) :
    DRep w F (sliced A l h c k) (.sl ((es.drop l).take (h - l))) := by
  have hlen : ((es.drop l).take (h - l)).length = h - l := by simp; omega
  unfold sliced
  cases A with
  | none =>
    obtain ⟨rfl, rfl⟩ := hA rfl
    have : l = 0 ∧ h = 0 := by simp at hh; omega
    obtain ⟨rfl, rfl⟩ := this
    exact .sl none 0 0 0 [] (fun _ => undef) rfl (Nat.le_refl _) (by simp [maxLen]) (by simp) (by omega) (fun _ => rfl) (by simp) (by simp)
  | some a =>
    have hcell := hcell a rfl
    refine .sl _ _ _ k _ (fun j => (w.cell? (a.add (l * k + j))).getD undef) hlen.symm (by omega) (by omega) (fun e he => hk e (List.mem_of_mem_drop (List.mem_of_mem_take he))) (fun h0 => ?_) (fun h0 => ?_) (fun a' j d ha' hj => ?_) (fun j d hj => ?_)
    · have hF := hF a rfl (by omega)
      split
      · exact ⟨a, rfl, hF⟩
      · exact ⟨_, rfl, by rw [add_block]; exact hF⟩
    · split at h0 <;> cases h0
    all_goals
      have h1 := take_flat _ _ _ _ hj
      have hlt0 := (List.getElem?_eq_some_iff.1 hj).1
      rw [flat_length k _ (fun e he => hk e (List.mem_of_mem_drop (List.mem_of_mem_take he))), hlen] at hlt0
      have hlt : l < h := by
        rcases Nat.lt_or_ge l h with h | h'
        · exact h
        · rw [show h - l = 0 by omega, Nat.zero_mul] at hlt0; omega
      rw [drop_flat k l es hk (by omega), List.getElem?_drop] at h1
      obtain ⟨u, h2, h3⟩ := hcell _ d h1
    · rw [if_neg (by omega)] at ha'
      injection ha' with ha'
      subst ha'
      rw [Go.Deep.add_add, h2]
      rfl
    · rw [h2]
      exact h3
theorem asSl_frozen {x : Value} {dd : D} {es : List (List D)} {A : Option Addr} {n c : Nat} {a : Addr} (h : PRep ρ b w F x (.d dd)) (hp : asSl b (.d dd) = some es) (hx : x = .slice A n c) (ha : A = some a) (h0 : 0 < es.length) : F a.block := by
  cases h with
  | d _ _ h =>
    cases h with
    | v _ h1 =>
      subst hx ha
      simp [asSl] at hp
    | sl A' n' c' k es' us hn hc hm hk hA hA0 hcell hrep =>
      injection hp with hp
      subst hp
      injection hx with e1 e2 e3
      subst e1
      obtain ⟨a', h1, h2⟩ := hA (by omega)
      rw [ha] at h1
      injection h1 with h1
      subst h1
      exact h2
theorem effSlice_ok {t : TypeId} {xv : Value} {p r : PV} {lo hi' : Option Value} {plo phi : Option PV} (hi : Inv w0 F0 ρ b w F) (hx : PRep ρ b w F xv p)
    (hlo : match lo, plo with | some v, some p => PRep ρ b w F v p | none, none => True | _, _ => False) (hhi : match hi', phi with | some v, some p => PRep ρ b w F v p | none, none => True | _, _ => False)
    (h : effSlice P b t p plo phi = some r) : ∃ v, PRep ρ b w F v r ∧ (Instr.sliceAt t xv lo hi' none).run P w = .ok v w := by
  unfold effSlice at h
  split at h
  · rename_i e hu
    have hue : P.underlying t = some (.slice (P.elem t)) := by rw [elem_of hu]; exact hu
    split at h
    · rename_i i dd hti
      obtain ⟨j, z, uu, hj, hz, hu2, hzs, hs, hby, ha, hzz, h1⟩ := tinf_spec hti
      split at h
      · rename_i es hes
        split at h
        · rename_i l hh hl hhh
          split at h
          · rename_i hc
            obtain ⟨hc1, hc2, hc3⟩ := hc
            injection h with h
            subst h
            obtain ⟨A, c, k, rfl, hcap, hm, hk, hA, hcell⟩ := asSl_reads hi hx hes
            have hsz : ∀ w : World, (sizeOf (P.elem t)).run P w = .ok i.size w := fun w => by rw [elem_of hu]; simp [sizeOf, typeInfo, hj, hs]
            have hd : DRep w F (sliced A l hh c i.size) (.sl ((es.drop l).take (hh - l))) :=
              sliced_reads rfl hcap hm hc3 hA hcell (fun a ha h0 => asSl_frozen hx hes rfl ha h0) hc1 hc2
            refine ⟨_, .d _ _ hd, ?_⟩
            rw [run_sliceAt_slice w t _ _ _ _ hue]
            rcases optI_spec hlo hl with ⟨rfl, _, rfl⟩ | ⟨k1, rfl⟩ <;> rcases optI_spec hhi hhh with ⟨rfl, _, rfl⟩ | ⟨k2, rfl⟩
            · rw [run_slice_all w t A es.length c hue, hsz]; rfl
            · rw [run_slice_h w t A es.length c hue k2 hh (by omega) (by omega), hsz]; rfl
            · rw [run_slice_l w t A es.length c hue k1 l (by omega) (by omega), hsz]; rfl
            · rw [run_slice_lh w t A es.length c hue k1 k2 l hh (by omega) (by omega) (by omega), hsz]; rfl
          · cases h
        · cases h
      · cases h
    · rename_i i x n hti
      obtain ⟨j, z, uu, hj, hz, hu2, hzs, hs, hby, ha, hzz, h1⟩ := tinf_spec hti
      split at h
      · rename_i e' k es hb
        split at h
        · rename_i l hh hl hhh
          split at h
          · rename_i hc
            obtain ⟨hc0, hc1, hc2, hc3⟩ := hc
            injection h with h
            subst h hc1
            cases hx with
            | row x n A c e3 k3 es3 hb3 hn hcc hA hρ =>
              rw [hb] at hb3
              injection hb3 with hb3
              injection hb3 with q1 q2 q3
              subst q1 q2 q3
              have hsz : ∀ w : World, (sizeOf (P.elem t)).run P w = .ok i.size w := fun w => by rw [elem_of hu]; simp [sizeOf, typeInfo, hj, hs]
              refine ⟨sliced A l hh c i.size, .vw x n l hh _ _ _ e' i.size es hb hn hc2 hc3 rfl (fun h => ⟨A, c, hρ h, rfl⟩), ?_⟩
              rw [run_sliceAt_slice w t _ _ _ _ hue]
              rcases optI_spec hlo hl with ⟨rfl, _, rfl⟩ | ⟨k1, rfl⟩ <;> rcases optI_spec hhi hhh with ⟨rfl, _, rfl⟩ | ⟨k2, rfl⟩
              · rw [run_slice_all w t A _ c hue, hsz]; rfl
              · rw [run_slice_h w t A _ c hue k2 hh (by omega) (by omega), hsz]; rfl
              · rw [run_slice_l w t A _ c hue k1 l (by omega) (by omega), hsz]; rfl
              · rw [run_slice_lh w t A _ c hue k1 k2 l hh (by omega) (by omega) (by omega), hsz]; rfl
          · cases h
        · cases h
      · cases h
    · cases h
  · rename_i hu
    split at h
    · rename_i s hs
      obtain rfl := asS_spec hx hs
      split at h
      · rename_i l hh hl hhh
        split at h
        · rename_i hc
          obtain ⟨hc1, hc2⟩ := hc
          injection h with h
          subst h
          refine ⟨_, .lit rfl, ?_⟩
          rw [run_sliceAt_string w t _ _ _ _ hu]
          rcases optI_spec hlo hl with ⟨rfl, _, rfl⟩ | ⟨k1, rfl⟩ <;> rcases optI_spec hhi hhh with ⟨rfl, _, rfl⟩ | ⟨k2, rfl⟩
          · simp [Instr.slice, run_underlying hu, Instr.sliceBounds]
          · have : ¬ (hh : Int) < 0 := by omega
            simp [Instr.slice, run_underlying hu, Instr.sliceBounds, Instr.sliceBound, asIntOf, hc2]
          · simp [Instr.slice, run_underlying hu, Instr.sliceBounds, Instr.sliceBound, asIntOf, hc1]
          · simp [Instr.slice, run_underlying hu, Instr.sliceBounds, Instr.sliceBound, asIntOf, hc1, hc2]
        · cases h
      · cases h
    · cases h
  · cases h

theorem Out.got {res : Result Value} {r : PV} {u : Option (Nat × Box)} (h : Got P w0 F0 ρ b w F res r u) : Out w0 F0 ρ b w F (res.andThen fun v w => .ok (.value v) w) r u := by
  obtain ⟨v, w', ρ', rfl, h1, h2, h3⟩ := h
  exact ⟨v, w', ρ', F, .inl rfl, h1, h2, h3⟩
theorem Out.one (hi : Inv w0 F0 ρ b w F) {res : Result Value} {r : PV} (h : ∃ v, PRep ρ b w F v r ∧ res = .ok v w) : Out w0 F0 ρ b w F (res.andThen fun v w => .ok (.value v) w) r none :=
  Out.got (P := default) (Got.pure hi h)
end
end Go.Proofs.Ytjeeclabnimbbaa
