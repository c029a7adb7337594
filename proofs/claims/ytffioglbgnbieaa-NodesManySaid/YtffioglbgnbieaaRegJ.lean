/- Regions that draw their order and hold calls that make memory: every operation that yields one value in every later world, and lays at most new blocks, may be taken first; what is left (new blocks, stores) is walked behind it, in whatever later world. -/
import Derived.Test.YtffioglbgnbieaaRows
import Derived.WalkKit
import Derived.Handy
import Derived.StillTail
import Derived.OrdersHeld
namespace Go.Proofs.Ytffioglbgnbieaa
open Go.RowKit

/-- w' is w with at most new blocks. -/
def Ext (w w' : World) : Prop := Below w.heap.size w w'

theorem Ext.refl (w : World) : Ext w w := Below.refl _ _
theorem Ext.trans {a b c : World} (h : Ext a b) (k : Ext b c) : Ext a c := Below.trans h (Below.mono k (Below.size h))
theorem Ext.drew (w : World) : Ext w w.drew := (Below.refl _ _).drew
theorem Ext.below {a b : World} (h : Ext a b) : Below a.heap.size a b := h
theorem Ext.size {a b : World} (h : Ext a b) : a.heap.size ≤ b.heap.size := Below.size h
theorem Ext.from {B : Nat} {w a b : World} (h : Ext a b) (hB : Below B w a) (hs : B ≤ a.heap.size) : Below B w b := hB.trans (Below.mono h hs)
theorem Ext.cell {a b : World} (h : Ext a b) {k o : Nat} {v : Value} (hc : a.cell? ⟨k, o, none⟩ = some v) : b.cell? ⟨k, o, none⟩ = some v := by
  rw [Below.cell h (p := ⟨k, o, none⟩) (World.block_lt_of_cell? a _ hc)]; exact hc
theorem Ext.free {a b : World} (h : Ext a b) {k o : Nat} {f : Bool} (hk : k < a.heap.size) (hc : a.frozen? ⟨k, o, none⟩ = f) : b.frozen? ⟨k, o, none⟩ = f := by
  rw [Below.frozen h (p := ⟨k, o, none⟩) hk]; exact hc

section
variable {P : Program} {ops : Array Oper} {Q : Exit → Act → World → Prop} {md : Region.Mode}

/-- What a run of an operation comes to: the value v, and at most new blocks. -/
def OkX (P : Program) (v : Value) (w : World) : Result Next → Prop
  | .ok (.value u) w' => u = v ∧ Ext w w'
  | .ok (.enter f args) w' => Ext w w' ∧ Calls P f args w' fun e w'' => e = .returned v ∧ Ext w' w''
  | _ => False

def YieldsX (P : Program) (ops : Array Oper) (W : World) (o : Oper) (v : Value) (a : Act) : Prop :=
  (Region.wanted o (yielded ops a.tmps) = true ∧ ∀ w, Ext W w → OkX P v w ((execOp a.eval o).run P w)) ∨
  (Region.wanted o (yielded ops a.tmps) = false ∧ v = undef)

theorem YieldsX.of_same {W : World} {o : Oper} {v : Value} {a a' : Act} (hy : YieldsX P ops W o v a) (he : execOp a'.eval o = execOp a.eval o)
    (hw : Region.wanted o (yielded ops a'.tmps) = Region.wanted o (yielded ops a.tmps)) : YieldsX P ops W o v a' := by
  unfold YieldsX at *
  rw [he, hw]
  exact hy

theorem YieldsX.later {W W' : World} {o : Oper} {v : Value} {a : Act} (hy : YieldsX P ops W o v a) (h : Ext W W') : YieldsX P ops W' o v a :=
  hy.imp (fun ⟨hw, hv⟩ => ⟨hw, fun w k => hv w (h.trans k)⟩) id

theorem YieldsX.wpOp {W w : World} {i : Nat} {o : Oper} {v : Value} {a : Act} (hi : ops[i]? = some o) (hy : YieldsX P ops W o v a) (hW : Ext W w)
    {K : Act → World → Prop} (h : ∀ w', Ext w w' → K (a.put o.dst v) w') : wpOp P ops Q i K a w := by
  unfold Go.wpOp
  simp only [hi]
  rcases hy with ⟨hw, hv⟩ | ⟨hw, rfl⟩
  · simp only [hw, if_true]
    refine .inl ?_
    unfold Oper.wp
    have := hv w hW
    generalize (execOp a.eval o).run P w = r at *
    cases r with
    | ok n w' =>
      cases n <;> simp only [OkX] at this <;> simp only [Oper.upon]
      case value u => rw [this.1]; exact h _ this.2
      case enter f args =>
        refine Calls.mono this.2 fun e w'' he => ?_
        rw [he.1]
        exact h _ (this.1.trans he.2)
    | halt x w' => simp only [OkX] at this
  · simp only [hw, Bool.false_eq_true, if_false]; exact h _ (Ext.refl _)

/-- One operation 'oj', apart from 'oi', comes first: what it does is not other, and 'oi' yields what it would have yielded. -/
theorem wpOp_putX {j : Nat} {W : World} {oi oj : Oper} {v : Value} (hj : ops[j]? = some oj) (hap : oi.apart ops oj = true)
    (hsi : ∀ cs b, oi.op ≠ .select cs b) (hsj : ∀ cs b, oj.op ≠ .select cs b)
    (hQ : ∀ c a w, Q (.panic c) (a.put oi.dst v) w → Q (.panic c) a w) {K : Act → World → Prop} {a : Act} {w : World}
    (hy : YieldsX P ops W oi v a) (h : wpOp P ops Q j K (a.put oi.dst v) w) :
    wpOp P ops Q j (fun a' w' => YieldsX P ops W oi v a' ∧ K (a'.put oi.dst v) w') a w := by
  obtain ⟨h1, h2, h3⟩ := Oper.apart_spec hap
  have keep : ∀ (a : Act), YieldsX P ops W oi v a → ∀ u, YieldsX P ops W oi v (a.put oj.dst u) := fun a hy u =>
    hy.of_same (execOp_put oi hsi a oj.dst u h3) (wanted_put oi a oj.dst u h3)
  have keepD : ∀ d, YieldsX P ops W oi v { a with defers := d :: a.defers } := fun d => hy.of_same rfl rfl
  unfold Go.wpOp at *
  simp only [hj] at *
  rw [wanted_put oj a oi.dst v h1] at h
  split
  · rename_i hw
    simp only [hw, if_true] at h
    rcases h with h | ⟨hasks, hlets⟩
    case inr => exact .inr ⟨by unfold Oper.asks at *; rw [execOp_put oj hsj a oi.dst v h1] at hasks; exact hasks, hlets⟩
    refine .inl ?_
    unfold Oper.wp at *
    rw [execOp_put oj hsj a oi.dst v h1] at h
    generalize (execOp a.eval oj).run P w = r at *
    cases r with
    | ok n w' =>
      cases n <;> simp only [Oper.upon] at h ⊢
      case value u => exact ⟨keep a hy u, by rw [← Act.put_comm a v u h2]; exact h⟩
      case skip => exact ⟨keep a hy _, by rw [← Act.put_comm a v undef h2]; exact h⟩
      case defer d =>
        refine ⟨keep _ (keepD d) _, ?_⟩
        rw [← Act.put_comm _ v undef h2, ← Act.put_defers]
        exact h
      case enter f args =>
        refine Calls.mono h fun e w'' he => ?_
        cases e with
        | returned u => exact ⟨keep a hy u, by rw [← Act.put_comm a v u h2]; exact he⟩
        | panicked c => exact hQ _ _ _ he
        | outgrown => exact he
      case row row args => exact Rows.mono h fun u w'' he => ⟨keep a hy u, by rw [← Act.put_comm a v u h2]; exact he⟩
    | halt x w' =>
      cases x <;> simp only [Oper.upon] at h ⊢
      case panic u => exact hQ _ _ _ h
  · rename_i hw
    simp only [hw] at h
    exact ⟨keep a hy _, by rw [← Act.put_comm a v undef h2]; exact h⟩

/-- Whatever order is picked among the first n operations, in whatever later world each is carried out: then T. -/
def wpJ (P : Program) (md : Region.Mode) (ops : Array Oper) (Q : Exit → Act → World → Prop) (n : Nat) (T : Array Bool → Act → World → Prop) : Nat → Array Bool → Act → World → Prop
  | 0, listed, a, w => ∀ w1, Ext w w1 → T listed a w1
  | f + 1, listed, a, w => ∀ w1, Ext w w1 → Region.ready md ops listed ≠ [] ∧
      ∀ i ∈ Region.ready md ops listed, i < n ∧ wpOp P ops Q i (fun a' w' => Ext w1 w' ∧ wpJ P md ops Q n T f (listed.setIfInBounds i true) a' w') a w1

theorem wpJ.later {n : Nat} {T : Array Bool → Act → World → Prop} : ∀ {f : Nat} {listed : Array Bool} {a : Act} {w w' : World}, wpJ P md ops Q n T f listed a w → Ext w w' → wpJ P md ops Q n T f listed a w'
  | 0, _, _, _, _, h, k => fun w1 k1 => h w1 (k.trans k1)
  | _ + 1, _, _, _, _, h, k => fun w1 k1 => h w1 (k.trans k1)

theorem wpAny_of_wpJ {n g : Nat} {T : Array Bool → Act → World → Prop} (hT : ∀ listed a w, T listed a w → wpAny P md ops Q g listed a w) :
    ∀ (f : Nat) (listed : Array Bool) (a : Act) (w : World), wpJ P md ops Q n T f listed a w → wpAny P md ops Q (f + g) listed a w
  | 0, listed, a, w, h => by rw [Nat.zero_add]; exact hT _ _ _ (h w (Ext.refl _))
  | f + 1, listed, a, w, h => by
    rw [show f + 1 + g = (f + g) + 1 by omega]
    have h := h w (Ext.refl _)
    exact ⟨fun h0 => absurd h0 h.1, fun i hi => wpOp_mono (fun a' w' h' => wpAny_of_wpJ hT f _ a' w' h'.2) (h.2 i hi).2⟩

theorem wpJ_first {n i : Nat} {oi : Oper} {v : Value} {T : Array Bool → Act → World → Prop} (hi : ops[i]? = some oi) (hsel : ∀ (j : Nat) (o : Oper) cs b, ops[j]? = some o → o.op ≠ .select cs b)
    (hQ : ∀ c a w, Q (.panic c) (a.put oi.dst v) w → Q (.panic c) a w)
    (hs : Region.sinkB md ops n = true ∧ Region.chainB md ops n = true ∧ n < ops.size ∨ n = ops.size) (hin : i < n)
    (hdone : ∀ listed a w, T listed a w → ∀ j ∈ Region.ready md ops listed, n ≤ j) :
    ∀ (f : Nat) (listed : Array Bool) (a : Act) (w : World), HeadInv md ops n listed →
      (∀ j oj, ops[j]? = some oj → j ≠ i → listed.getD j true = false → (∀ e ∈ oj.after, Region.binds md e = true → e.on ≠ i) → oi.apart ops oj = true) →
      i ∈ Region.ready md ops listed → YieldsX P ops w oi v a →
      wpJ P md ops Q n T f (listed.setIfInBounds i true) (a.put oi.dst v) w → wpJ P md ops Q n T (f + 1) listed a w := by
  have hlt : ∀ (listed : Array Bool), HeadInv md ops n listed → i ∈ Region.ready md ops listed → ∀ j ∈ Region.ready md ops listed, j < n := by
    intro listed inv hr j hj
    rcases hs with ⟨hs, hc, hn⟩ | hn
    · rcases Nat.lt_or_ge j n with h | h
      · exact h
      · exact absurd hj (tail_waits hs hc hn inv _ i rfl hin (mem_ready.1 hr).1 j h)
    · obtain ⟨_, oj, hoj, _⟩ := mem_ready.1 hj
      have := (Array.getElem?_eq_some_iff.1 hoj).1
      omega
  intro f
  induction f with
  | zero =>
    intro listed a w inv _ hr hy H w1 k1
    refine ⟨fun h => (by rw [h] at hr; cases hr), fun j hj => ?_⟩
    have hjn := hlt listed inv hr j hj
    refine ⟨hjn, ?_⟩
    by_cases hji : j = i
    · subst hji; exact hy.wpOp hi k1 fun w' k' => ⟨k', H.later (k1.trans k')⟩
    · have := hdone _ _ _ (H w (Ext.refl _)) j (ready_mono hj hji)
      omega
  | succ f ih =>
    intro listed a w inv hfree hr hy H w1 k1
    have hun := (mem_ready.1 hr).1
    refine ⟨fun h => (by rw [h] at hr; cases hr), fun j hj => ?_⟩
    have hjn := hlt listed inv hr j hj
    refine ⟨hjn, ?_⟩
    by_cases hji : j = i
    · subst hji; exact hy.wpOp hi k1 fun w' k' => ⟨k', H.later (k1.trans k')⟩
    · have h1 := ((H w1 k1).2 j (ready_mono hj hji)).2
      obtain ⟨hjun, oj, hoj, hall⟩ := mem_ready.1 hj
      have hnot : ∀ e ∈ oj.after, Region.binds md e = true → e.on ≠ i := fun e he hb heq => by
        have h1 := hall e he hb
        rw [heq, getD_both hun] at h1
        cases h1
      have hfree' : ∀ k ok, ops[k]? = some ok → k ≠ i → (listed.setIfInBounds j true).getD k true = false →
          (∀ e ∈ ok.after, Region.binds md e = true → e.on ≠ i) → oi.apart ops ok = true := fun k ok hk hki hun hno => by
        refine hfree k ok hk hki ?_ hno
        by_cases hjk : j = k
        · subst hjk; exact hjun
        · rw [getD_set_ne true hjk] at hun; exact hun
      have h2 := wpOp_putX hoj (hfree j oj hoj hji hjun hnot) (fun cs b => hsel i oi cs b hi) (fun cs b => hsel j oj cs b hoj) hQ hy h1
      refine wpOp_mono (fun a' w' h3 => ⟨h3.2.1, ih (listed.setIfInBounds j true) a' w' (inv.set hj hjn) hfree' (ready_mono hr (Ne.symm hji)) (h3.1.later (k1.trans h3.2.1)) ?_⟩) h2
      rw [Array.setIfInBounds_comm _ _ hji]
      exact h3.2.2

theorem headInv_start {n : Nat} : HeadInv md ops n (Array.replicate ops.size false) where
  size := by simp
  closed := fun j oj _ hl => by rw [getD_replicate_false] at hl; cases hl
  tail := fun t _ ht => by simp [ht]

/-- The region's operations are n that are taken in the text's order, and a tail that comes up in the text's order behind all of them. -/
def lexB (md : Region.Mode) (ops : Array Oper) (n : Nat) : Bool :=
  Region.noSelect ops && (decide (n = ops.size) || (decide (n < ops.size) && Region.sinkB md ops n && Region.chainB md ops n)) && Region.lexHead md ops (ops.size - n) n 0 (Array.replicate ops.size false)

/-- The first operations, one by one in the text's order: each yields one value, whatever later world it is carried out in. -/
def wpSeq (P : Program) (ops : Array Oper) (W : World) (L : Act → Prop) : List Oper → Act → Prop
  | [], a => L a
  | o :: l, a => ∃ v, YieldsX P ops W o v a ∧ wpSeq P ops W L l (a.put o.dst v)

theorem OkX.val {v : Value} {w : World} : OkX P v w (.ok (.value v) w) := ⟨rfl, Ext.refl _⟩
theorem OkX.call {f : FuncId} {args : Array Value} {v : Value} {w : World} (h : Calls P f args w fun e w' => e = .returned v ∧ Below w.heap.size w w') : OkX P v w (.ok (.enter f args) w) :=
  ⟨Ext.refl _, h⟩
theorem OkX.same {f : FuncId} {args : Array Value} {v : Value} {w : World} (h : Calls P f args w fun e w' => e = .returned v ∧ w = w') : OkX P v w (.ok (.enter f args) w) :=
  ⟨Ext.refl _, h.mono fun _ _ ⟨he, hw⟩ => ⟨he, hw ▸ Ext.refl _⟩⟩
theorem OkX.eq2 {p q : Prop} [Decidable p] [Decidable q] {w : World} : OkX P (.bool (decide p && decide q)) w (if p then if q then .ok (.value (.bool true)) w else .ok (.value (.bool false)) w else .ok (.value (.bool false)) w) := by
  by_cases hp : p <;> by_cases hq : q <;> simp only [hp, hq, if_true, if_false, decide_true, decide_false, Bool.and_true, Bool.and_false, Bool.and_self] <;> exact OkX.val
theorem OkX.ne2 {p q : Prop} [Decidable p] [Decidable q] {w : World} : OkX P (.bool !(decide p && decide q)) w (if p then if q then .ok (.value (.bool false)) w else .ok (.value (.bool true)) w else .ok (.value (.bool true)) w) := by
  by_cases hp : p <;> by_cases hq : q <;> simp only [hp, hq, if_true, if_false, decide_true, decide_false, Bool.and_true, Bool.and_false, Bool.and_self, Bool.not_true, Bool.not_false] <;> exact OkX.val
theorem OkX.eqv {u v : Value} {w : World} {r : Result Next} (h : OkX P u w r) (e : u = v) : OkX P v w r := e ▸ h
theorem seq_take {W : World} {L : Act → Prop} {o : Oper} {l : List Oper} {a : Act} (v : Value) (hw : Region.wanted o (yielded ops a.tmps) = true)
    (h : ∀ w1, Ext W w1 → OkX P v w1 ((execOp a.eval o).run P w1)) (hr : wpSeq P ops W L l (a.put o.dst v)) : wpSeq P ops W L (o :: l) a := ⟨v, .inl ⟨hw, h⟩, hr⟩
theorem seq_skip {W : World} {L : Act → Prop} {o : Oper} {l : List Oper} {a : Act} (hw : Region.wanted o (yielded ops a.tmps) = false)
    (hr : wpSeq P ops W L l (a.put o.dst undef)) : wpSeq P ops W L (o :: l) a := ⟨undef, .inr ⟨hw, rfl⟩, hr⟩
theorem seq_nil {W : World} {L : Act → Prop} {a : Act} (h : L a) : wpSeq P ops W L [] a := h

theorem wpJ_lex {n g : Nat} {W : World} {L : Act → Prop} {T : Array Bool → Act → World → Prop} (hsel : Region.noSelect ops = true)
    (hQ : ∀ c (a : Act) (d : Tmp) v w, Q (.panic c) (a.put (some d) v) w → Q (.panic c) a w)
    (hs : Region.sinkB md ops n = true ∧ Region.chainB md ops n = true ∧ n < ops.size ∨ n = ops.size)
    (hdone : ∀ listed a w, T listed a w → ∀ j ∈ Region.ready md ops listed, n ≤ j)
    (hT : ∀ listed a, Region.seqB md ops g n listed = true → L a → ∀ w1, Ext W w1 → T listed a w1) :
    ∀ (l : List Oper) (k : Nat) (listed : Array Bool) (a : Act), (∀ j, j < l.length → l[j]? = ops[k + j]?) → k + l.length = n → HeadInv md ops n listed →
    Region.lexHead md ops g l.length k listed = true → wpSeq P ops W L l a → wpJ P md ops Q n T l.length listed a W
  | [], k, listed, a, _, hk, _, hB, h => by
    have : k = n := by simpa using hk
    subst this
    exact fun w1 k1 => hT listed a (by simpa [Region.lexHead] using hB) h w1 k1
  | o :: l, k, listed, a, hl, hk, inv, hB, h => by
    have h0 : ops[k]? = some o := by simpa using (hl 0 (by simp)).symm
    simp only [List.length_cons, Region.lexHead, Bool.and_eq_true] at hB
    obtain ⟨⟨hr, hf⟩, hB'⟩ := hB
    have hkn : k < n := by simp only [List.length_cons] at hk; omega
    have hr' : k ∈ Region.ready md ops listed := by simpa using hr
    obtain ⟨v, hy, hK⟩ := h
    exact wpJ_first h0 (Region.noSelect_spec hsel) (fun c a w => by cases hd : o.dst with | none => exact fun h => h | some d => exact hQ c a d v w) hs hkn hdone l.length listed a W inv (Region.free_spec h0 hf) hr' hy
      (wpJ_lex hsel hQ hs hdone hT l (k + 1) _ _ (fun j hj => by have := hl (j + 1) (by simp; omega); simpa [Nat.add_assoc, Nat.add_comm 1 j] using this) (by simp only [List.length_cons] at hk; omega) (inv.set hr' hkn) hB' hK)

/-- **The law.** A region that draws its order: its first n operations yield one value each and lay at most new blocks; the rest follows in the text's order, in whatever later world. -/
theorem wp_region_lex {id : Nat} {a : Act} {w : World} {l : List Oper} (n : Nat) (hm : P.follows .mixedOrders = true) (hB : lexB .any l.toArray n = true)
    (hQ : ∀ c (a : Act) (d : Tmp) v w, Q (.panic c) (a.put (some d) v) w → Q (.panic c) a w)
    (h : wpSeq P l.toArray w (fun a' => ∀ w1, Ext w w1 → wpList P l.toArray Q (l.drop n) a' w1) (l.take n) a) :
    (Code.region id l.toArray true).wp P Q a w := by
  simp only [lexB, Bool.and_eq_true, Bool.or_eq_true, decide_eq_true_eq] at hB
  obtain ⟨⟨hsel, hs⟩, hlex⟩ := hB
  have hs' : Region.sinkB .any l.toArray n = true ∧ Region.chainB .any l.toArray n = true ∧ n < l.toArray.size ∨ n = l.toArray.size := by
    rcases hs with hs | ⟨⟨h1, h2⟩, h3⟩
    · exact .inr hs
    · exact .inl ⟨h2, h3, h1⟩
  have hle : n ≤ l.length := by
    rcases hs' with ⟨_, _, h⟩ | h
    · simp at h; omega
    · simp at h; omega
  refine wp_region_any hm ?_
  have hJ : wpJ P .any l.toArray Q n (fun listed a' w' => Region.seqB .any l.toArray (l.toArray.size - n) n listed = true ∧ wpList P l.toArray Q (l.drop n) a' w') (l.take n).length (Array.replicate l.toArray.size false) a w := by
    refine wpJ_lex (g := l.toArray.size - n) hsel hQ hs' (fun listed a w hT => seqB_ready hT.1) (fun listed a hq hL w1 k1 => ⟨hq, hL w1 k1⟩) (l.take n) 0 _ a ?_ ?_ headInv_start ?_ h
    · intro j hj
      simp only [List.length_take] at hj
      simp [List.getElem?_take]; omega
    · simp; omega
    · simpa [Nat.min_eq_left hle] using hlex
  have hA := wpAny_of_wpJ (g := l.toArray.size - n) (fun listed a' w' hT => ?_) _ _ _ _ (hJ.later (Ext.drew w))
  · have e : (l.take n).length + (l.toArray.size - n) = l.toArray.size := by simp; omega
    rw [e] at hA
    exact hA
  · have hlen : (l.drop n).length = l.toArray.size - n := by simp
    have := wpAny_of_seq (P := P) (ops := l.toArray) (md := .any) (Q' := Q) (l.drop n) n listed a' w' (fun j => by simp [List.getElem?_drop]) (by rw [hlen]; exact hT.1) hT.2
    rw [hlen] at this
    exact this

end

end Go.Proofs.Ytffioglbgnbieaa
