/- conf.Parse. -/
import Derived.Test.YtigfoghkndoakaaDoorLines
import Derived.Test.YtigfoghkndoakaaDoorEnd
namespace Go.Proofs.YtigfoghkndoakaaDoor
open Go.RowKit

attribute [local go_sem] Oper.semAt_some

theorem Clone_any (S : ByteArray) (w : World) (hs : S.size ≤ 2000) : Calls Tryd.prog 34 #[.string S] w fun e w' => e = .returned (.string S) ∧ Ext w w' := by
  have hcon := fun W => Tryd.stringslite_Clone S W (by omega)
  go_enter Tryd.func34, Tryd.ntmps34
  go_wp2_with (go_at_call 54; refine (hcon _).mono ?_; rintro e w' ⟨rfl, hx⟩)
  go_ret
  exact ⟨rfl, hx⟩

theorem SplitSeq_any (S : ByteArray) (w : World) : Calls Tryd.prog 33 #[.string S, .string ⟨#[10]⟩] w fun e w' =>
    e = .returned (.func (.func 67) #[] #[.pointer (some ⟨w.heap.size + 1, 0, none⟩), .pointer (some ⟨w.heap.size, 0, none⟩), .pointer (some ⟨w.heap.size + 1 + 1, 0, none⟩)]) ∧
    w' = ((w.alloc (.cells #[.string S] 9)).alloc (.cells #[.string ⟨#[10]⟩] 9)).alloc (.cells #[.int .i64 0] 3) := by
  go_enter Tryd.func33, Tryd.ntmps33
  go_wp2_with go_in
  go_ret
  exact ⟨rfl, rfl⟩

theorem isBlank_any (r : Nat) (w : World) (hr : r ≤ 1114111) : Calls Tryd.prog 36 #[.int .i32 (r : Int)] w fun e w' => e = .returned (.bool (isB r)) ∧ w' = w := by
  have e : isB r = ((r : Int) == 32) := by
    unfold isB
    rw [Bool.eq_iff_iff]
    simp
    omega
  rw [e]
  go_enter Tryd.func36, Tryd.ntmps36
  go_wp2
  go_ret
  exact ⟨rfl, rfl⟩

theorem Fields_any (S : ByteArray) (w : World) (hs : S.size ≤ 4294967296) : Calls Tryd.prog 35 #[.string S, .func (.func 36) #[] #[]] w fun e w' =>
    ∃ A, e = .returned (.slice (some ⟨A, 0, none⟩) (wordsOf S.data.toList).length (wordsOf S.data.toList).length) ∧ w.heap.size ≤ A ∧ Rd w' (.slice (some ⟨A, 0, none⟩) (wordsOf S.data.toList).length (wordsOf S.data.toList).length) ((wordsOf S.data.toList).map sv) ∧ Ext w w' := by
  have eg : ∀ args w, (callFunc 36 args).run Tryd.prog w = .ok (.enter 36 args) w := enters_of Tryd.func36 (by kernel_rfl) rfl
  refine (Tryd.strings_FieldsFunc_grows 36 #[] eg isB S w hs (fun W x hx _ => (isBlank_any x W hx).mono fun e w' ⟨he, hw⟩ => ⟨he, hw ▸ Below.refl _ _⟩)).mono ?_
  have hw := fields_words S
  have hl : (Lib.goFieldsP isB S).length = (wordsOf S.data.toList).length := by rw [← hw, List.length_map]
  have hm : (Lib.goFieldsP isB S).map Value.string = (wordsOf S.data.toList).map sv := by
    rw [← hw, List.map_map]
    apply List.map_congr_left
    intro b _
    exact (sv_of b).symm
  rw [hl, hm]
  rintro e w' ⟨A, rfl, hA, ho, hb⟩
  exact ⟨A, rfl, hA, Rd.of_own ho, hb⟩

theorem words_len : ∀ (cur r : Tx), (∀ x ∈ wds cur r, x.length ≤ cur.length + r.length) ∧ (wds cur r).length ≤ r.length + 1
  | cur, [] => by
    rw [wds_nil]
    split <;> simp
  | cur, b :: r => by
    by_cases hb : b = 32
    · subst hb
      rw [wds_blank]
      obtain ⟨h1, h2⟩ := words_len [] r
      refine ⟨fun x hx => ?_, ?_⟩
      · rcases List.mem_append.1 hx with hx | hx
        · split at hx
          · cases hx
          · simp at hx; subst hx; simp
        · have := h1 x hx; simp at this ⊢; omega
      · rw [List.length_append]
        split <;> simp <;> omega
    · have e := wds_more cur [b] r (by simp; exact fun e => hb e.symm)
      rw [show [b] ++ r = b :: r from rfl] at e
      rw [e]
      obtain ⟨h1, h2⟩ := words_len (cur ++ [b]) r
      refine ⟨fun x hx => ?_, ?_⟩
      · have := h1 x hx; simp at this ⊢; omega
      · simp; omega

theorem run_stop : ∀ (pre post : List (List Tx)) (s : CD), (runC s pre).1 ≠ 0 → runC s (pre ++ post) = runC s pre
  | [], _, s, h => absurd rfl h
  | ws :: pre, post, s, h => by
    unfold runC at h ⊢
    rw [List.cons_append]
    simp only [runC] at h ⊢
    split
    · rename_i h1
      rw [if_pos h1] at h
      exact run_stop pre post s h
    · rename_i h1
      rw [if_neg h1] at h
      split
      · rename_i h2
        rw [if_pos h2] at h
        exact run_stop pre post _ h
      · rfl
theorem run_on : ∀ (pre : List (List Tx)) (ws : List Tx) (s t : CD), runC s pre = (0, t) → runC s (pre ++ [ws]) = if ws = [] then (0, t) else if (step t ws).1 = 0 then (0, (step t ws).2) else step t ws
  | [], ws, s, t, h => by
    have : s = t := by have := congrArg Prod.snd h; exact this
    subst this
    simp only [List.nil_append, runC]
  | w :: pre, ws, s, t, h => by
    simp only [List.cons_append, runC] at h ⊢
    split
    · rename_i h1; rw [if_pos h1] at h; exact run_on pre ws s t h
    · rename_i h1
      rw [if_neg h1] at h
      split
      · rename_i h2; rw [if_pos h2] at h; exact run_on pre ws _ t h
      · rename_i h2; rw [if_neg h2] at h; exact absurd (by rw [h]) h2
end Go.Proofs.YtigfoghkndoakaaDoor
