/- Nodes in the order of Ids: what put makes of them. -/
import Derived.Test.YtffioglbgnbieaaNdBeat
import Derived.Test.YtffioglbgnbieaaNdKnown
import Derived.Test.YtffioglbgnbieaaFoot
namespace Go.Proofs.Ytffioglbgnbieaa
open Go.RowKit

def Srt (ds : List ND) : Prop := ds.Pairwise (fun a b => a.id < b.id)
theorem putN_lt {x d : ND} {l : List ND} (h : d.id < x.id) : putN (x :: l) d = d :: x :: l := by
  have h1 : decide (d.id ≤ x.id) = true := by simp; omega
  have h2 : decide (d.id < x.id) = true := by simpa using h
  simp [putN, List.findIdx_cons, h1, h2]
theorem findIdx_all {p : ND → Bool} {x : ND} {l : List ND} (h : ∀ y ∈ l, p y = true) : l.findIdx p = 0 := by
  cases l with
  | nil => rfl
  | cons y l => rw [List.findIdx_cons, h y (by simp)]; rfl
theorem putN_eq {x d : ND} {l : List ND} (h : d.id = x.id) (hs : ∀ y ∈ l, x.id < y.id) : putN (x :: l) d = d :: l := by
  have h1 : decide (d.id ≤ x.id) = true := by simp; omega
  have h2 : decide (d.id < x.id) = false := by simp; omega
  have h3 : l.findIdx (fun y => decide (d.id < y.id)) = 0 := findIdx_all (x := x) (fun y hy => by have := hs y hy; simp; omega)
  simp [putN, List.findIdx_cons, h1, h2, h3]
theorem putN_gt {x d : ND} {l : List ND} (h : x.id < d.id) : putN (x :: l) d = x :: putN l d := by
  have h1 : decide (d.id ≤ x.id) = false := by simp; omega
  have h2 : decide (d.id < x.id) = false := by simp; omega
  simp [putN, List.findIdx_cons, h1, h2]
theorem putN_nil (d : ND) : putN [] d = [d] := rfl
/-- One that is not there. -/
theorem putN_new (d : ND) : ∀ (ds : List ND), Srt ds → (∀ x ∈ ds, x.id ≠ d.id) → (putN ds d).length = ds.length + 1 ∧ (∀ x, x ∈ putN ds d ↔ (x = d ∨ x ∈ ds)) ∧ Srt (putN ds d)
  | [], _, _ => ⟨rfl, fun x => by simp [putN_nil], by simp [putN_nil, Srt]⟩
  | x :: l, hs, hn => by
    have hs' := List.pairwise_cons.1 hs
    by_cases h1 : d.id < x.id
    · rw [putN_lt h1]
      refine ⟨rfl, fun y => by simp, List.pairwise_cons.2 ⟨fun y hy => ?_, hs⟩⟩
      rcases List.mem_cons.1 hy with rfl | hy
      · exact h1
      · have := hs'.1 y hy; omega
    · have h2 : x.id < d.id := by have := hn x (by simp); omega
      obtain ⟨i1, i2, i3⟩ := putN_new d l hs'.2 (fun y hy => hn y (by simp [hy]))
      rw [putN_gt h2]
      refine ⟨by simp [i1], fun y => (by rw [List.mem_cons, i2, List.mem_cons]; exact ⟨fun h => h.elim (fun h => .inr (.inl h)) (fun h => h.elim .inl (fun h => .inr (.inr h))), fun h => h.elim (fun h => .inr (.inl h)) (fun h => h.elim .inl (fun h => .inr (.inr h)))⟩), List.pairwise_cons.2 ⟨fun y hy => ?_, i3⟩⟩
      rcases (i2 y).1 hy with rfl | hy
      · exact h2
      · exact hs'.1 y hy
/-- One that is there. -/
theorem putN_again (d : ND) : ∀ (ds : List ND) (k : Nat) (hk : k < ds.length), Srt ds → ds[k].id = d.id → putN ds d = ds.set k d
  | [], k, hk, _, _ => by simp at hk
  | x :: l, 0, _, hs, he => by
    rw [putN_eq (by simpa using he.symm) (List.pairwise_cons.1 hs).1]
    rfl
  | x :: l, k + 1, hk, hs, he => by
    have hs' := List.pairwise_cons.1 hs
    have hm : l[k]'(by simpa using hk) ∈ l := List.getElem_mem _
    have h2 : x.id < d.id := by
      have := hs'.1 _ hm
      simp at he
      omega
    rw [putN_gt h2, putN_again d l k (by simpa using hk) hs'.2 (by simpa using he)]
    rfl
theorem idx_of {ds : List ND} (hs : Srt ds) {k : Nat} (hk : k < ds.length) : idxN ds ds[k].id = k := by
  induction ds generalizing k with
  | nil => simp at hk
  | cons x l ih =>
    have hs' := List.pairwise_cons.1 hs
    cases k with
    | zero => simp [idxN, List.findIdx_cons]
    | succ k =>
      have hm : l[k]'(by simpa using hk) ∈ l := List.getElem_mem _
      have h1 := hs'.1 _ hm
      have hk' : k < l.length := by simpa using hk
      have h2 : ((l[k]'hk').id == x.id) = false := by simp; omega
      have := ih hs'.2 (k := k) (by simpa using hk)
      unfold idxN at this ⊢
      simp [List.findIdx_cons, h2, this]
theorem idx_no {ds : List ND} {id : Int} (h : ∀ x ∈ ds, x.id ≠ id) : idxN ds id = ds.length := by
  unfold idxN
  rw [List.findIdx_eq_length]
  intro x hx
  have := h x hx
  simp
  omega
theorem srt_set {ds : List ND} (hs : Srt ds) {k : Nat} (hk : k < ds.length) (d : ND) (he : d.id = ds[k].id) : Srt (ds.set k d) := by
  unfold Srt at *
  rw [List.pairwise_iff_getElem] at *
  intro i j hi hj hij
  rw [List.length_set] at hi hj
  simp only [List.getElem_set]
  have h1 := hs i j hi hj hij
  by_cases e1 : k = i
  · by_cases e2 : k = j
    · omega
    · rw [if_pos e1, if_neg e2]; subst e1; omega
  · by_cases e2 : k = j
    · rw [if_neg e1, if_pos e2]; subst e2; omega
    · rw [if_neg e1, if_neg e2]; exact h1

theorem QsAt.above {w w' : World} {B : Nat} {v : Value} {ds : List QD} (h : QsAt w B v ds) (x : Above B w w') : RdQs w' v ds := by
  obtain ⟨qs, h1, h2, h3⟩ := h
  refine ⟨qs, (RdK.of_own h1).above x (fun g hg => (h1.lt g hg).1), h2, fun k hk => ?_⟩
  obtain ⟨q, h4, h5, h6⟩ := h3 k hk
  exact ⟨q, h4, h5.1, h5.2.1, h5.2.2.above x (fun g hg => (h6 g hg).2.1)⟩
theorem Above.of_foot {Q : Nat → Prop} {w w' : World} {B : Nat} (x : FootL Q w w') (hQ : ∀ i, Q i → i < B) : Above B w w' :=
  ⟨x.size, fun g o hg ho _ => x.blk ho (fun hq => by have := hQ g hq; omega)⟩
/-- Blocks below turn: what lies above is read as it was. -/
theorem StOwn.rdFoot {Q : Nat → Prop} {w w' : World} {B : Nat} {s : SV} {D : StD} (h : StOwn w B s D) (x : FootL Q w w') (hQ : ∀ i, Q i → i < B) : StRd w' s D := by
  have k : ∀ {e : TypeId} {k n : Nat} {v : Value} {xs : List Value} (h1 : w.ownsRow B e k v n xs), w'.ownsRow B e k v n xs := fun h1 => own_footL h1 x (fun g hg hq => by have := hQ g hq; have := (h1.lt g hg).1; omega)
  exact ⟨RdK.of_own (k h.labs), h.queues.above (Above.of_foot x hQ), Hd.of_own (k h.nodes), RdK.of_own (k h.apps), RdK.of_own (k h.conts), RdK.of_own (k h.slots), RdK.of_own (k h.plans)⟩
/-- Whatever turns in Q, it is read as it was. -/
def Keeps (Q : Nat → Prop) (w : World) (s : SV) (D : StD) : Prop := ∀ W', FootL Q w W' → StRd W' s D
theorem Keeps.foot {Q : Nat → Prop} {w w' : World} {s : SV} {D : StD} (h : Keeps Q w s D) (x : FootL Q w w') : Keeps Q w' s D := fun W' y => h W' ((FootL_way Q).trans x y)
theorem Keeps.ext {Q : Nat → Prop} {w w' : World} {s : SV} {D : StD} (h : Keeps Q w s D) (x : Ext w w') : Keeps Q w' s D := h.foot (FootL.of_ext x)
theorem Keeps.rd {Q : Nat → Prop} {w : World} {s : SV} {D : StD} (h : Keeps Q w s D) : StRd w s D := h w (FootL.of_ext (Ext.refl _))
theorem StOwn.keeps {Q : Nat → Prop} {w : World} {B : Nat} {s : SV} {D : StD} (h : StOwn w B s D) (hQ : ∀ i, Q i → i < B) : Keeps Q w s D := fun _ x => h.rdFoot x hQ
theorem NewAt.keeps {Q : Nat → Prop} {g : Nat} {w : World} (h : NewAt g w) (hQ : ∀ i, Q i → g + 3 < i) (nw ep sq : Int) : Keeps Q w ⟨.slice (some ⟨g + 1, 0, none⟩) 1 1, .slice (some ⟨g + 1 + 1 + 1, 0, none⟩) 1 1, .slice none 0 0, .slice none 0 0, .slice none 0 0, .slice none 0 0, .slice none 0 0, nw, ep, sq⟩ (newD []) := fun W' x =>
  NewAt.rd ⟨x.blk h.labs (fun hq => by have := hQ _ hq; omega), x.blk h.caps (fun hq => by have := hQ _ hq; omega), x.blk h.queue (fun hq => by have := hQ _ hq; omega)⟩ (show Hd W' (.slice none 0 0) ([] : List ND).length (ncells []) from Hd.nil W') nw ep sq
def Shp (s : SV) (n : Nat) : Prop := ∃ A0 c0 A1 c1 A2 c2 A3 c3 A4 c4 A5 c5 A6 c6, s = ⟨.slice A0 1 c0, .slice A1 1 c1, .slice A2 n c2, .slice A3 0 c3, .slice A4 0 c4, .slice A5 0 c5, .slice A6 0 c6, 0, 0, 0⟩

def nodeY (y : Nat) : ND := ⟨(y : Int), 0, 0, (y : Int), 0, 0, 0, true⟩
def nodeD (y : Nat) : ND := ⟨(y : Int), 0, 0, (y : Int), 0, 0, 7, false⟩
theorem ncells_down : ∀ (ds : List ND) (k : Nat) (hk : k < ds.length) {y : Nat}, ds[k] = nodeY y → ncells (ds.set k (nodeD y)) = ((ncells ds).set (k * 8 + 7) (.bool false)).set (k * 8 + 6) (.int .i64 7)
  | [], k, h, _, _ => by simp at h
  | d :: ds, 0, _, _, h => by
    simp at h
    subst h
    rfl
  | d :: ds, k + 1, hk, y, h => by
    have ih := ncells_down ds k (by simpa using hk) (y := y) (by simpa using h)
    rw [List.set_cons_succ]
    show nenc d ++ ncells (ds.set k _) = ((nenc d ++ ncells ds).set ((k + 1) * 8 + 7) _).set ((k + 1) * 8 + 6) _
    rw [ih, show (k + 1) * 8 = k * 8 + 1 + 1 + 1 + 1 + 1 + 1 + 1 + 1 by omega]
    rfl
def nodeZ (y : Nat) : ND := ⟨(y : Int), 0, 9, 0, 0, 0, 0, true⟩
def Md (W8 : World) (nn : Nat) (xs : List Value) (s16 s17 : Value) (wx : World) : Prop := ∃ (T : Nat) (s : SV), s16 = .pointer (some ⟨T, 0, none⟩) ∧ s17 = .int .i64 0 ∧ wx.heap[T]? = some (.cells (scells s) 34 (0, 0)) ∧ wx.ownsRow W8.heap.size 44 8 s.vn nn xs ∧ Ext W8 wx
end Go.Proofs.Ytffioglbgnbieaa
