/- What stage 9's laws share. -/
import Derived.Test.YtbocpkdnlpobkaaAkG
import Derived.Test.YtbocpkdnlpobkaaAkO
import Derived.Test.YtbocpkdnlpobkaaAkQ
import Derived.Test.YtbocpkdnlpobkaaAkR
import Derived.Test.YtbocpkdnlpobkaaAkPd
namespace Go.Proofs.Ytbocpkdnlpobkaa
open Go.RowKit

theorem hdA_of {w : World} {B n : Nat} {v : Value} {ds : List AD} (h : w.ownsRow B 25 8 v n (acells ds)) (hn : n = ds.length) : HdA w v ds := by subst hn; exact Hd.of_own h
theorem good_count (a : AD) : 0 ≤ (goodA a).count ∧ (goodA a).count ≤ 5 := by unfold goodA; simp only; omega
theorem setL_two (ds : List AD) (a : AD) : (setE ds a = 0 ∧ setL ds a = setA ds a ∧ (setA ds a).length ≤ 8) ∨ (setE ds a = 4 ∧ setL ds a = [] ∧ 8 < (setA ds a).length) := by
  unfold setE setL
  by_cases h : (setA ds a).length > 8
  · right; rw [if_pos h, if_pos h]; exact ⟨rfl, rfl, h⟩
  · left; rw [if_neg h, if_neg h]; exact ⟨rfl, rfl, by omega⟩
theorem setA_len {ds : List AD} (h : SrtA ds) (a : AD) : (setA ds a).length ≤ ds.length + 1 := putA_len ds _ h
/-- All but those of one Prio. -/
def outP (p : Int) (ds : List AD) : List AD := ds.filter (fun x => decide (x.prio ≠ p))
theorem outP_srt {ds : List AD} (h : SrtA ds) (p : Int) : outP p ds = lowA p ds ++ highA p ds := by
  induction ds with
  | nil => rfl
  | cons x l ih =>
    have hs := List.pairwise_cons.1 h
    have ih := ih hs.2
    by_cases h1 : x.prio < p
    · rw [show lowA p (x :: l) = x :: lowA p l by unfold lowA; rw [List.filter_cons_of_pos (by simpa using h1)], show highA p (x :: l) = highA p l by unfold highA; rw [List.filter_cons_of_neg (by simp; omega)], List.cons_append, ← ih]
      unfold outP
      rw [List.filter_cons_of_pos (by simp; omega)]
    · have hl : ∀ y ∈ l, p < y.prio := fun y hy => by have := hs.1 y hy; omega
      have e1 : lowA p (x :: l) = [] := lowA_none (fun y hy => (List.mem_cons.1 hy).elim (fun e => by subst e; omega) (fun hy => by have := hl y hy; omega))
      rw [e1, List.nil_append]
      unfold outP highA
      refine List.filter_congr (fun y hy => ?_)
      rcases List.mem_cons.1 hy with rfl | hy
      · exact decide_eq_decide.2 (by constructor <;> intro _ <;> omega)
      · have := hl y hy; exact decide_eq_decide.2 (by constructor <;> intro _ <;> omega)
theorem outP_mid (p : Int) (ds x : List AD) (hx : ∀ y ∈ x, y.prio = p) : outP p (midA p ds x) = lowA p ds ++ highA p ds := by
  have hl : ∀ y ∈ lowA p ds, y.prio < p := fun y hy => by simpa using (List.mem_filter.1 hy).2
  have hh : ∀ y ∈ highA p ds, p < y.prio := fun y hy => by simpa using (List.mem_filter.1 hy).2
  unfold outP midA
  rw [List.filter_append, List.filter_append, List.filter_eq_self.2 (fun y hy => by have := hl y hy; simp; omega), List.filter_eq_nil_iff.2 (fun y hy => by have := hx y hy; simp; omega), List.append_nil, List.filter_eq_self.2 (fun y hy => by have := hh y hy; simp; omega)]
theorem outP_set {ds : List AD} (h : SrtA ds) (a : AD) : outP a.prio (setA ds a) = outP a.prio ds := by
  rw [outP_srt h]
  exact outP_mid a.prio ds _ (setOne_ok { a with missed := 0 }).2
theorem outP_take {ds : List AD} (h : SrtA ds) (p : Int) : outP p (takeA ds p) = outP p ds := by
  unfold takeA
  cases hh : hasA p ds with
  | false => rfl
  | true =>
    rw [if_pos rfl, outP_srt h]
    have hp := (getA_mem hh).2
    have := outP_mid (getA p ds).prio ds (setOne { getA p ds with count := (getA p ds).count - 1, missed := 0 }) (setOne_ok { getA p ds with count := (getA p ds).count - 1, missed := 0 }).2
    rw [hp] at this
    unfold putA
    rw [show ({ getA p ds with count := (getA p ds).count - 1, missed := 0 } : AD).prio = p from hp]
    exact this
theorem outP_miss (ds : List AD) (p : Int) : outP p (missA ds p) = outP p ds := by
  unfold outP missA
  induction ds with
  | nil => rfl
  | cons x l ih =>
    rw [List.map_cons]
    by_cases h : x.prio = p
    · rw [if_pos h, List.filter_cons_of_neg (by simp [h]), List.filter_cons_of_neg (by simp [h]), ih]
    · rw [if_neg h, List.filter_cons_of_pos (by simp [h]), List.filter_cons_of_pos (by simp [h]), ih]
theorem outP_snoc (p : Int) (l : List AD) (d : AD) : outP p (l ++ [d]) = if d.prio = p then outP p l else outP p l ++ [d] := by
  unfold outP
  rw [List.filter_append]
  by_cases h : d.prio = p
  · rw [if_pos h, List.filter_cons_of_neg (by simp [h])]; simp
  · rw [if_neg h, List.filter_cons_of_pos (by simp [h])]; simp
theorem outP_len (p : Int) (l : List AD) : (outP p l).length ≤ l.length := List.length_filter_le _ _
theorem takeA_len {ds : List AD} (hs : SrtA ds) (p : Int) : (takeA ds p).length ≤ ds.length := by
  cases hh : hasA p ds with
  | false => unfold takeA; rw [hh]; exact Nat.le_refl _
  | true =>
    obtain ⟨k, hk, rfl⟩ := hasA_idx hh
    unfold takeA
    rw [hh, if_pos rfl, getA_at hs k hk]
    unfold putA midA
    rw [show ({ ds[k] with count := ds[k].count - 1, missed := 0 } : AD).prio = ds[k].prio from rfl, lowA_at hs k hk, highA_at hs k hk]
    have := (setOne_ok { ds[k] with count := ds[k].count - 1, missed := 0 }).1
    rw [List.length_append, List.length_append, List.length_take, List.length_drop]
    omega
theorem foot_set8 (w : World) (B : Nat) (v0 v1 v2 v3 v4 v5 v6 v7 : Value) : FootL (fun i => i = B) w ((((((((w.setCell ⟨B, 0, none⟩ v0).setCell ⟨B, 1, none⟩ v1).setCell ⟨B, 2, none⟩ v2).setCell ⟨B, 3, none⟩ v3).setCell ⟨B, 4, none⟩ v4).setCell ⟨B, 5, none⟩ v5).setCell ⟨B, 6, none⟩ v6).setCell ⟨B, 7, none⟩ v7) := by
  have s := fun (W : World) j u => FootL.setCell (fun i => i = B) W B j u rfl
  have t : ∀ {a b c : World}, FootL (fun i => i = B) a b → FootL (fun i => i = B) b c → FootL (fun i => i = B) a c := fun h k => (FootL_way (fun i => i = B)).trans h k
  exact t (t (t (t (t (t (t (s w 0 v0) (s _ 1 v1)) (s _ 2 v2)) (s _ 3 v3)) (s _ 4 v4)) (s _ 5 v5)) (s _ 6 v6)) (s _ 7 v7)
theorem ext_set8 {w w' : World} {b : Nat} (h : Ext w w') (hb : w.heap.size ≤ b) (v0 v1 v2 v3 v4 v5 v6 v7 : Value) : Ext w ((((((((w'.setCell ⟨b, 0, none⟩ v0).setCell ⟨b, 1, none⟩ v1).setCell ⟨b, 2, none⟩ v2).setCell ⟨b, 3, none⟩ v3).setCell ⟨b, 4, none⟩ v4).setCell ⟨b, 5, none⟩ v5).setCell ⟨b, 6, none⟩ v6).setCell ⟨b, 7, none⟩ v7) :=
  ext_set (ext_set (ext_set (ext_set (ext_set (ext_set (ext_set (ext_set h hb v0) hb v1) hb v2) hb v3) hb v4) hb v5) hb v6) hb v7
theorem bsetI8 {w : World} {b : Nat} {t : TypeId} {x0 x1 x2 x3 x4 x5 x6 x7 : Value} (h : w.heap[b]? = some (.cells #[x0, x1, x2, x3, x4, x5, x6, x7] t (0, 0))) (v0 v1 v2 v3 v4 v5 v6 v7 : Value) : ((((((((w.setCell ⟨b, 0, none⟩ v0).setCell ⟨b, 1, none⟩ v1).setCell ⟨b, 2, none⟩ v2).setCell ⟨b, 3, none⟩ v3).setCell ⟨b, 4, none⟩ v4).setCell ⟨b, 5, none⟩ v5).setCell ⟨b, 6, none⟩ v6).setCell ⟨b, 7, none⟩ v7).heap[b]? = some (.cells #[v0, v1, v2, v3, v4, v5, v6, v7] t (0, 0)) := by
  have e := bset (bset (bset (bset (bset (bset (bset (bset h 0 v0) 1 v1) 2 v2) 3 v3) 4 v4) 5 v5) 6 v6) 7 v7
  simp only [List.setIfInBounds_toArray, List.set_cons_zero, List.set_cons_succ] at e
  exact e
end Go.Proofs.Ytbocpkdnlpobkaa
