/- FieldsFunc at the blank: the words of a line; plain facts. -/
import Derived.Test.YtigfoghkndoakaaDoorCut
import Derived.Lib.FieldsP
import Derived.Lib.DecodeN
import Derived.Lib.MapLaws
namespace Go.Proofs.YtigfoghkndoakaaDoor
open Go.RowKit Go.Lib

theorem get_toL (s : ByteArray) (i : Nat) (h : i < s.size) : s.data.toList[i]? = some (s.get! i) := by
  cases s with
  | mk d =>
    have h' : i < d.size := h
    have e : (ByteArray.get! ⟨d⟩ i) = d[i]! := rfl
    rw [e, getElem!_pos d i h']
    simp [h']

def isB (r : Nat) : Bool := r == 32

theorem dec32 (s : ByteArray) (pos : Nat) (h : pos < s.size) :
    (s.data.toList[pos]? = some 32 ∧ Utf8.decode s pos = (32, 1)) ∨
    (isB (Utf8.decode s pos).1 = false ∧ pos + (Utf8.decode s pos).2 ≤ s.size ∧ 1 ≤ (Utf8.decode s pos).2 ∧ ∀ j, pos ≤ j → j < pos + (Utf8.decode s pos).2 → s.data.toList[j]? ≠ some 32) := by
  rw [decode_at]
  have g0 := get_toL s pos h
  obtain ⟨b0, hb0⟩ : ∃ b, b = s.get! pos := ⟨_, rfl⟩
  rw [← hb0] at g0 ⊢
  have ne : ∀ (j : Nat) (b : UInt8), s.data.toList[j]? = some b → b.toNat ≠ 32 → s.data.toList[j]? ≠ some 32 := by
    intro j b h1 h2 h3
    rw [h1] at h3
    injection h3 with h3
    exact h2 (by rw [h3]; rfl)
  by_cases hlt : b0.toNat < 128
  · have e : decodeN (s.size - pos) b0.toNat (s.get! (pos + 1)).toNat (s.get! (pos + 2)).toNat (s.get! (pos + 3)).toNat = (b0.toNat, 1) := by unfold decodeN; rw [if_pos hlt]
    rw [e]
    by_cases h32 : b0.toNat = 32
    · left
      have : b0 = 32 := UInt8.toNat.inj (by rw [h32]; rfl)
      exact ⟨by rw [g0, this], by rw [h32]⟩
    · right
      refine ⟨by simp [isB, h32], by simp only; omega, Nat.le_refl _, fun j h1 h2 => ?_⟩
      simp only at h2
      obtain rfl : j = pos := by omega
      exact ne _ _ g0 h32
  · right
    have gk : ∀ k, pos + k < s.size → s.data.toList[pos + k]? = some (s.get! (pos + k)) := fun k hk => get_toL s _ hk
    rcases decodeN_shape (s.size - pos) b0.toNat (s.get! (pos + 1)).toNat (s.get! (pos + 2)).toNat (s.get! (pos + 3)).toNat with h1 | ⟨h1, h2, h3, h4, e⟩ | ⟨h1, h2, h3, h4, h5, h6, e⟩ | ⟨h1, h2, h3, h4, h5, h6, h7, e⟩ | e
    · omega
    · rw [e]
      refine ⟨by simp [isB]; omega, by simp only; omega, by simp only; omega, fun j k1 k2 => ?_⟩
      simp only at k2
      by_cases hj : j = pos
      · subst hj; exact ne _ _ g0 (by omega)
      · obtain rfl : j = pos + 1 := by omega
        exact ne _ _ (gk 1 (by omega)) (by omega)
    · rw [e]
      refine ⟨by simp [isB]; omega, by simp only; omega, by simp only; omega, fun j k1 k2 => ?_⟩
      simp only at k2
      by_cases hj : j = pos
      · subst hj; exact ne _ _ g0 (by omega)
      · by_cases hj : j = pos + 1
        · subst hj; exact ne _ _ (gk 1 (by omega)) (by omega)
        · obtain rfl : j = pos + 2 := by omega
          exact ne _ _ (gk 2 (by omega)) (by omega)
    · rw [e]
      refine ⟨by simp [isB]; omega, by simp only; omega, by simp only; omega, fun j k1 k2 => ?_⟩
      simp only at k2
      by_cases hj : j = pos
      · subst hj; exact ne _ _ g0 (by omega)
      · by_cases hj : j = pos + 1
        · subst hj; exact ne _ _ (gk 1 (by omega)) (by omega)
        · by_cases hj : j = pos + 2
          · subst hj; exact ne _ _ (gk 2 (by omega)) (by omega)
          · obtain rfl : j = pos + 3 := by omega
            exact ne _ _ (gk 3 (by omega)) (by omega)
    · rw [e]
      refine ⟨by simp [isB], by simp only; omega, Nat.le_refl _, fun j k1 k2 => ?_⟩
      simp only at k2
      obtain rfl : j = pos := by omega
      exact ne _ _ g0 (by omega)

def wds (cur r : Tx) : List Tx := (pcs 32 cur r).filter fun x => x != []
theorem wds_nil (cur : Tx) : wds cur [] = if cur = [] then [] else [cur] := by
  unfold wds pcs
  by_cases h : cur = [] <;> simp [h]
theorem wds_blank (cur r : Tx) : wds cur (32 :: r) = (if cur = [] then [] else [cur]) ++ wds [] r := by
  unfold wds
  rw [show pcs 32 cur (32 :: r) = cur :: pcs 32 [] r by simp [pcs]]
  by_cases h : cur = [] <;> simp [h]
theorem wds_more (cur a r : Tx) (h : (32 : UInt8) ∉ a) : wds cur (a ++ r) = wds (cur ++ a) r := by
  unfold wds
  rw [pcs_cur 32 a cur r h]

def pc (l : Tx) (a b : Nat) : Tx := (l.drop a).take (b - a)
theorem pc_more (l : Tx) (a pos k : Nat) (h : a ≤ pos) : pc l a (pos + k) = pc l a pos ++ (l.drop pos).take k := by
  unfold pc
  rw [show pos + k - a = (pos - a) + k by omega, List.take_add, List.drop_drop, show a + (pos - a) = pos by omega]
def toPc (s : ByteArray) (l : List (Nat × Nat)) : List Tx := l.map fun x => pc s.data.toList x.1 x.2

theorem spans_words (s : ByteArray) : ∀ (f pos : Nat) (st : Option Nat) (acc : List (Nat × Nat)), s.size ≤ pos + f → pos ≤ s.size → (∀ a, st = some a → a < pos) →
    toPc s (closeSpans s (spansFromP isB s f pos st acc)) = toPc s acc ++ wds (match st with | some a => pc s.data.toList a pos | none => []) (s.data.toList.drop pos) := by
  intro f
  have fin : ∀ (pos : Nat) (st : Option Nat) (acc : List (Nat × Nat)), pos = s.size → (∀ a, st = some a → a < pos) →
      toPc s (closeSpans s (acc, st)) = toPc s acc ++ wds (match st with | some a => pc s.data.toList a pos | none => []) (s.data.toList.drop pos) := by
    intro pos st acc hp hst
    subst hp
    rw [List.drop_of_length_le (by rw [ba_size]; exact Nat.le_refl _), wds_nil]
    cases st with
    | none => simp [closeSpans, toPc]
    | some a =>
      have ha := hst a rfl
      have hne : pc s.data.toList a s.size ≠ [] := by
        unfold pc
        intro e
        have h5 := congrArg List.length e
        have h6 := ba_size s
        simp only [List.length_take, List.length_drop, List.length_nil] at h5
        omega
      simp only [closeSpans, hne, if_false]
      simp [toPc]
  induction f with
  | zero =>
    intro pos st acc h1 h2 hst
    have : spansFromP isB s 0 pos st acc = (acc, st) := rfl
    rw [this]
    exact fin pos st acc (by omega) hst
  | succ f ih =>
    intro pos st acc h1 h2 hst
    by_cases hlt : pos < s.size
    · have hl : pos < s.data.toList.length := by rw [← ba_size]; exact hlt
      rcases dec32 s pos hlt with ⟨hb, hd⟩ | ⟨hb, hk1, hk2, hj⟩
      · have hdr : s.data.toList.drop pos = 32 :: s.data.toList.drop (pos + 1) := by
          rw [List.drop_eq_getElem_cons hl]
          rw [List.getElem?_eq_getElem hl] at hb
          injection hb with hb
          rw [hb]
        cases st with
        | none =>
          have e : spansFromP isB s (f + 1) pos none acc = spansFromP isB s f (pos + 1) none acc := by simp [spansFromP, hlt, hd, isB]
          rw [e, ih (pos + 1) none acc (by omega) (by omega) (fun a h => by cases h), hdr]
          simp only [wds_blank, if_true, List.nil_append]
        | some a =>
          have ha := hst a rfl
          have e : spansFromP isB s (f + 1) pos (some a) acc = spansFromP isB s f (pos + 1) none (acc ++ [(a, pos)]) := by simp [spansFromP, hlt, hd, isB]
          have hne : pc s.data.toList a pos ≠ [] := by
            unfold pc
            intro e
            have h5 := congrArg List.length e
            have h6 := ba_size s
            simp only [List.length_take, List.length_drop, List.length_nil] at h5
            omega
          rw [e, ih (pos + 1) none _ (by omega) (by omega) (fun a h => by cases h), hdr]
          simp only [wds_blank, hne, if_false]
          simp [toPc]
      · have hdr : s.data.toList.drop pos = (s.data.toList.drop pos).take (Utf8.decode s pos).2 ++ s.data.toList.drop (pos + (Utf8.decode s pos).2) := by
          rw [← List.drop_drop, List.take_append_drop]
        have hno : (32 : UInt8) ∉ (s.data.toList.drop pos).take (Utf8.decode s pos).2 := by
          intro hm
          obtain ⟨i, hi, e⟩ := List.mem_iff_getElem.1 hm
          rw [List.length_take] at hi
          refine hj (pos + i) (by omega) (by omega) ?_
          have h3 : ((s.data.toList.drop pos).take (Utf8.decode s pos).2)[i]? = some 32 := by rw [List.getElem?_eq_getElem (by rw [List.length_take]; exact hi), e]
          rw [List.getElem?_take, if_pos (by omega), List.getElem?_drop] at h3
          exact h3
        have e0 : spansFromP isB s (f + 1) pos none acc = spansFromP isB s f (pos + (Utf8.decode s pos).2) (some pos) acc := by simp [spansFromP, hlt, hb]
        have e1 : ∀ a, spansFromP isB s (f + 1) pos (some a) acc = spansFromP isB s f (pos + (Utf8.decode s pos).2) (some a) acc := fun a => by simp [spansFromP, hlt, hb]
        generalize Utf8.decode s pos = D at *
        obtain ⟨r, k⟩ := D
        simp only at *
        cases st with
        | none =>
          rw [e0, ih (pos + k) (some pos) acc (by omega) (by omega) (fun a h => by injection h with h; omega)]
          simp only
          rw [hdr, wds_more _ _ _ hno, List.nil_append]
          simp [pc]
        | some a =>
          have ha := hst a rfl
          rw [e1, ih (pos + k) (some a) acc (by omega) (by omega) (fun a' h => by injection h with h; omega)]
          simp only
          rw [hdr, wds_more _ _ _ hno, pc_more _ _ _ _ (by omega)]
    · have e : spansFromP isB s (f + 1) pos st acc = (acc, st) := spansFromP_end isB s (f + 1) pos st acc hlt
      rw [e]
      exact fin pos st acc (by omega) hst

theorem fields_words (s : ByteArray) : (goFieldsP isB s).map (fun b => b.data.toList) = wordsOf s.data.toList := by
  have h := spans_words s s.size 0 none [] (by omega) (Nat.zero_le _) (fun a h => by cases h)
  simp only [List.drop_zero, toPc, List.map_nil, List.nil_append] at h
  unfold goFieldsP spansOfP
  rw [List.map_map]
  show _ = wds [] s.data.toList
  rw [← h]
  apply List.map_congr_left
  intro x _
  exact ext_toL s x.1 x.2
end Go.Proofs.YtigfoghkndoakaaDoor
