/- The order of texts; a sorted row is one: plain facts. -/
import Derived.Test.YtigfoghkndoakaaDoorPar
namespace Go.Proofs.YtigfoghkndoakaaDoor

theorem lt8_irrefl : ∀ a : Tx, lt8 a a = false
  | [] => rfl
  | a :: p => by
    have h : ¬ a < a := by rw [UInt8.lt_iff_toNat_lt]; omega
    simp [lt8, h, lt8_irrefl p]
theorem lt8_trans : ∀ a b c : Tx, lt8 a b = true → lt8 b c = true → lt8 a c = true
  | _, _, [], _, h => by simp [lt8] at h
  | _, [], _ :: _, h, _ => by simp [lt8] at h
  | [], _ :: _, _ :: _, _, _ => by simp [lt8]
  | a :: p, b :: q, c :: r, h1, h2 => by
    simp only [lt8] at *
    simp only [UInt8.lt_iff_toNat_lt] at *
    by_cases x1 : a.toNat < b.toNat
    · by_cases x2 : b.toNat < c.toNat
      · rw [if_pos (by omega)]
      · rw [if_neg x2] at h2
        split at h2
        · cases h2
        · rw [if_pos (by omega)]
    · rw [if_neg x1] at h1
      split at h1
      · cases h1
      · by_cases x2 : b.toNat < c.toNat
        · rw [if_pos (by omega)]
        · rw [if_neg x2] at h2
          split at h2
          · cases h2
          · rw [if_neg (by omega), if_neg (by omega)]
            exact lt8_trans p q r h1 h2
theorem lt8_tri : ∀ a b : Tx, lt8 a b = false → lt8 b a = false → a = b
  | [], [], _, _ => rfl
  | [], _ :: _, h, _ => by simp [lt8] at h
  | _ :: _, [], _, h => by simp [lt8] at h
  | a :: p, b :: q, h1, h2 => by
    simp only [lt8] at *
    simp only [UInt8.lt_iff_toNat_lt] at *
    by_cases x1 : a.toNat < b.toNat
    · rw [if_pos x1] at h1; cases h1
    · by_cases x2 : b.toNat < a.toNat
      · rw [if_pos x2] at h2; cases h2
      · rw [if_neg x1, if_neg x2] at h1
        rw [if_neg x2, if_neg x1] at h2
        have e : a = b := UInt8.toNat.inj (by omega)
        rw [e, lt8_tri p q h1 h2]
theorem lt8_ntrans (a b c : Tx) (h1 : lt8 a b = false) (h2 : lt8 b c = false) : lt8 a c = false := by
  cases h : lt8 a c with
  | false => rfl
  | true =>
    cases h3 : lt8 b a with
    | true => rw [lt8_trans b a c h3 h] at h2; cases h2
    | false => have := lt8_tri a b h1 h3; subst this; rw [h] at h2; cases h2
theorem cmp_lt8 : ∀ a b : Tx, decide (Lib.compareBytes a b < 0) = lt8 a b
  | [], [] => rfl
  | [], _ :: _ => rfl
  | _ :: _, [] => rfl
  | a :: p, b :: q => by
    simp only [Lib.compareBytes, lt8]
    split
    · rfl
    · split
      · rfl
      · exact cmp_lt8 p q

/-- Sorted: no later one is less. -/
abbrev Srt (l : List QD) : Prop := l.Pairwise fun a b => lt8 b.path a.path = false
theorem ins_perm (q : QD) (l : List QD) : (insQ q l).Perm (q :: l) := by
  unfold insQ
  refine List.perm_middle.trans ?_
  rw [List.takeWhile_append_dropWhile]
theorem drop_head {p : QD → Bool} : ∀ {l : List QD} {x : QD} {r : List QD}, l.dropWhile p = x :: r → p x = false
  | [], _, _, h => by simp at h
  | y :: l, x, r, h => by
    rw [List.dropWhile_cons] at h
    by_cases hp : p y = true
    · rw [if_pos hp] at h; exact drop_head h
    · rw [if_neg hp] at h
      have h1 := (List.cons.inj h).1
      rw [← h1]; simpa using hp
theorem ins_srt (q : QD) (l : List QD) (h : Srt l) : Srt (insQ q l) := by
  unfold insQ
  have hsplit := h
  rw [← List.takeWhile_append_dropWhile (p := fun x => lt8 x.path q.path) (l := l), Srt, List.pairwise_append] at hsplit
  obtain ⟨h1, h2, h3⟩ := hsplit
  have ht : ∀ x ∈ l.takeWhile (fun x => lt8 x.path q.path), lt8 x.path q.path = true := fun x hx => by
    have := List.all_takeWhile (p := fun x : QD => lt8 x.path q.path) (l := l)
    rw [List.all_eq_true] at this
    exact this x hx
  have hd : ∀ x ∈ l.dropWhile (fun x => lt8 x.path q.path), lt8 x.path q.path = false := fun x hx => by
    cases hq : l.dropWhile (fun x => lt8 x.path q.path) with
    | nil => rw [hq] at hx; cases hx
    | cons y r =>
      have hy := drop_head hq
      rw [hq] at hx h2
      rcases List.mem_cons.1 hx with rfl | hx
      · exact hy
      · exact lt8_ntrans _ _ _ ((List.pairwise_cons.1 h2).1 x hx) hy
  refine List.pairwise_append.2 ⟨h1, List.pairwise_cons.2 ⟨fun x hx => hd x hx, h2⟩, fun a ha b hb => ?_⟩
  rcases List.mem_cons.1 hb with rfl | hb
  · cases h : lt8 b.path a.path with
    | false => rfl
    | true => have := lt8_trans _ _ _ h (ht a ha); rw [lt8_irrefl] at this; cases this
  · exact h3 a ha b hb
theorem sort_from : ∀ (l a : List QD), Srt a → Srt (l.foldl (fun a q => insQ q a) a) ∧ (l.foldl (fun a q => insQ q a) a).Perm (a ++ l)
  | [], a, h => ⟨h, by simp⟩
  | q :: l, a, h => by
    obtain ⟨h1, h2⟩ := sort_from l (insQ q a) (ins_srt q a h)
    refine ⟨h1, h2.trans ?_⟩
    refine ((ins_perm q a).append_right l).trans ?_
    simpa using (List.perm_middle (l₁ := a) (l₂ := l) (a := q)).symm
theorem sortQ_srt (l : List QD) : Srt (sortQ l) := (sort_from l [] List.Pairwise.nil).1
theorem sortQ_perm (l : List QD) : (sortQ l).Perm l := by have := (sort_from l [] List.Pairwise.nil).2; simpa [sortQ] using this

theorem nodup_inj {l : List QD} (h : (l.map (·.path)).Nodup) : ∀ a ∈ l, ∀ b ∈ l, a.path = b.path → a = b := by
  induction l with
  | nil => intro a ha; cases ha
  | cons x l ih =>
    rw [List.map_cons, List.nodup_cons] at h
    intro a ha b hb e
    rcases List.mem_cons.1 ha with h1 | h1 <;> rcases List.mem_cons.1 hb with h2 | h2
    · rw [h1, h2]
    · subst h1; exact absurd (List.mem_map.2 ⟨b, h2, e.symm⟩) h.1
    · subst h2; exact absurd (List.mem_map.2 ⟨a, h1, e⟩) h.1
    · exact ih h.2 a h1 b h2 e
/-- A sorted row of unlike paths is the one. -/
theorem srt_one {l l' : List QD} (hs : Srt l') (hp : l'.Perm l) (hn : (l.map (·.path)).Nodup) : l' = sortQ l := by
  refine List.Perm.eq_of_pairwise (le := fun a b : QD => lt8 b.path a.path = false) ?_ hs (sortQ_srt l) (hp.trans (sortQ_perm l).symm)
  intro a b ha hb h1 h2
  exact nodup_inj hn a (hp.mem_iff.1 ha) b ((sortQ_perm l).mem_iff.1 hb) (lt8_tri _ _ h2 h1)
/-- Sorted, and no two neighbours alike: all unlike. -/
theorem srt_nodup : ∀ {l : List QD}, Srt l → (∀ i (h : i + 1 < l.length), l[i + 1].path ≠ (l[i]'(by omega)).path) → (l.map (·.path)).Nodup
  | [], _, _ => by simp
  | [x], _, _ => by simp
  | x :: y :: l, h, hn => by
    have h' := List.pairwise_cons.1 h
    have ih := srt_nodup h'.2 (fun i hi => by have := hn (i + 1) (by simpa using hi); simpa using this)
    rw [List.map_cons, List.nodup_cons]
    refine ⟨?_, ih⟩
    have hxy : y.path ≠ x.path := by have := hn 0 (by simp); simpa using this
    intro hmem
    obtain ⟨z, hz, e⟩ := List.mem_map.1 hmem
    have h1 : lt8 y.path x.path = false := h'.1 y (by simp)
    have h2 : lt8 z.path y.path = false := by
      rcases List.mem_cons.1 hz with rfl | hz
      · exact lt8_irrefl _
      · exact (List.pairwise_cons.1 h'.2).1 z hz
    exact hxy (lt8_tri _ _ h1 (by rw [← e]; exact h2))
theorem perm_lift {α β : Type} (f : β → α) {l₁ l₂ : List α} (h : l₁.Perm l₂) : ∀ z : List β, z.map f = l₂ → ∃ z' : List β, z'.Perm z ∧ z'.map f = l₁ := by
  induction h with
  | nil => intro z hz; have : z = [] := by simpa using hz
           subst this; exact ⟨[], List.Perm.refl _, rfl⟩
  | cons x _ ih =>
    intro z hz
    cases z with
    | nil => cases hz
    | cons b z =>
      rw [List.map_cons] at hz
      injection hz with h1 h2
      obtain ⟨z', h3, h4⟩ := ih z h2
      exact ⟨b :: z', h3.cons b, by rw [List.map_cons, h1, h4]⟩
  | swap x y l =>
    intro z hz
    match z, hz with
    | b :: c :: z, hz =>
      simp only [List.map_cons] at hz
      injection hz with h1 h2
      injection h2 with h2 h3
      exact ⟨c :: b :: z, List.Perm.swap b c z, by simp only [List.map_cons]; rw [h1, h2, h3]⟩
  | trans _ _ ih1 ih2 =>
    intro z hz
    obtain ⟨z2, h3, h4⟩ := ih2 z hz
    obtain ⟨z1, h5, h6⟩ := ih1 z2 h4
    exact ⟨z1, h5.trans h3, h6⟩
end Go.Proofs.YtigfoghkndoakaaDoor
